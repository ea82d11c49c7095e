package urls

import (
	"strings"

	"footman/api"
	"footman/ascii"
	"footman/hosts"
	"footman/percent"
)

const (
	colon      = ":"
	slash      = "/"
	backslash  = `\`
	schemeEnd  = colon
	slashes    = slash + slash
	userEnd    = "@"
	queryBegin = "?"
	markBegin  = "#"

	space       = ' '
	tabsAndEnds = "\t\n\r"
	schemeSigns = "+-."
	letters     = "abcdefghijklmnopqrstuvwxyz"
	digits      = "0123456789"

	onePoint  = "."
	twoPoints = ".."
	toldPoint = "%2e"
)

// reader cuts a text's rest from either end; what it has cut stands in the address that it embeds. A cut that the text does not allow panics with an api.Errno.
type reader struct {
	api.URL
	base  api.URL  // the zero address, whose scheme no text has, if there is none
	rest  string   // what is not cut yet
	place string   // of that, ahead of the path: user, host, port
	parts []string // those of a path that are there, ahead of the rest
}

func readerOf(s string, base api.URL) *reader { return &reader{base: base, rest: s} }

// read cuts the whole text. Which cuts there are between the end of a text and its measure hangs on what is left by then.
func (r *reader) read() (u api.URL, err api.Errno) {
	defer func() {
		if refused, ok := recover().(api.Errno); ok {
			u, err = api.URL{}, refused
		}
	}()
	inOrder(r.dropBlanks, r.cutScheme, r.cutMark, r.cutQuery, r.turnSlashes)
	inOrder(r.cutsOfRest()...)
	inOrder(r.measure)
	return r.URL, api.OK
}

func inOrder(cuts ...func()) {
	for _, cut := range cuts {
		cut()
	}
}

// cutsOfRest does not ask whether the text told its scheme: where that is base's own, a text with two slashes ahead tells a place either way.
func (r *reader) cutsOfRest() []func() {
	ahead := len(r.rest) - len(strings.TrimLeft(r.rest, slash))
	switch {
	case r.Scheme != r.base.Scheme || ahead >= len(slashes):
		return []func(){r.dropSlashes, r.cutPlace, r.cutUser, r.cutHost, r.cutPort, r.cutPath}
	case ahead > 0:
		return []func(){r.dropSlashes, r.takePlace, r.cutPath}
	case r.rest != "":
		return []func(){r.takePlace, r.takeParts, r.cutPath}
	}
	return []func(){r.takePlace, r.takePath}
}

func (r *reader) dropBlanks() {
	r.rest = strings.TrimFunc(r.rest, func(sign rune) bool { return sign <= space })
	for i := range len(tabsAndEnds) {
		r.rest = strings.ReplaceAll(r.rest, tabsAndEnds[i:i+1], "")
	}
}

func (r *reader) cutScheme() {
	scheme, rest, ok := strings.Cut(r.rest, schemeEnd)
	scheme = ascii.Lower(scheme)
	if !ok || !isScheme(scheme) {
		refuseIf(r.base.Scheme == "", api.ErrForm)
		r.Scheme = r.base.Scheme
		return
	}
	refuseIf(portOf(scheme) == 0, api.ErrScheme)
	r.Scheme, r.rest = scheme, rest
}

func (r *reader) cutMark() {
	var mark string
	r.rest, mark, r.HasMark = strings.Cut(r.rest, markBegin)
	r.Mark = percent.Encode(mark, api.SetFragment)
}

func (r *reader) cutQuery() {
	var query string
	r.rest, query, r.HasQuery = strings.Cut(r.rest, queryBegin)
	r.Query = percent.Encode(query, api.SetQuery)
}

// turnSlashes must come behind the end: there, `\` is a byte as any other.
func (r *reader) turnSlashes() { r.rest = strings.ReplaceAll(r.rest, backslash, slash) }

func (r *reader) dropSlashes() { r.rest = strings.TrimLeft(r.rest, slash) }

func (r *reader) cutPlace() { r.place, r.rest, _ = strings.Cut(r.rest, slash) }

func (r *reader) cutUser() {
	at := strings.LastIndex(r.place, userEnd)
	if at < 0 {
		return
	}
	user, pass, _ := strings.Cut(r.place[:at], colon)
	r.User, r.Pass = percent.Encode(user, api.SetUser), percent.Encode(pass, api.SetUser)
	r.place = r.place[at+len(userEnd):]
}

func (r *reader) cutHost() {
	end := hostEnd(r.place)
	host, err := hosts.Parse(r.place[:end])
	refuseIf(err != api.OK, api.ErrHost)
	r.Host, r.place = host, r.place[end:]
}

// cutPort drops the noughts ahead, which may be more than ascii.Number reads.
func (r *reader) cutPort() {
	r.Port = ownPort
	told := strings.TrimPrefix(r.place, colon)
	if told == "" {
		return
	}
	port, ok := ascii.Number("0"+strings.TrimLeft(told, "0"), mostPort)
	refuseIf(!ok, api.ErrForm)
	if port != portOf(r.Scheme) {
		r.Port = port
	}
}

// cutPath: of a text that is empty, the rest of a path is one empty part.
func (r *reader) cutPath() {
	rest := strings.Split(r.rest, slash)
	for i, part := range rest {
		told := withPoints(part)
		if told == twoPoints {
			r.parts = r.parts[:max(len(r.parts)-1, 0)]
		}
		if told != onePoint && told != twoPoints {
			r.parts = append(r.parts, percent.Encode(part, api.SetPath))
		} else if i == len(rest)-1 {
			r.parts = append(r.parts, "")
		}
	}
	r.Path = slash + strings.Join(r.parts, slash)
}

func (r *reader) takePlace() {
	r.User, r.Pass, r.Host, r.Port = r.base.User, r.base.Pass, r.base.Host, r.base.Port
}

// takeParts: what stands ahead of the first slash of base's path is no part of it.
func (r *reader) takeParts() {
	parts := strings.Split(r.base.Path, slash)
	r.parts = parts[1 : len(parts)-1]
}

func (r *reader) takePath() {
	r.Path = r.base.Path
	if !r.HasQuery {
		r.Query, r.HasQuery = r.base.Query, r.base.HasQuery
	}
}

func (r *reader) measure() { refuseIf(len(Text(r.URL)) > api.MaxURL, api.ErrLimit) }

func refuseIf(bad bool, err api.Errno) {
	if bad {
		panic(err)
	}
}

// isScheme asks of small letters.
func isScheme(s string) bool {
	return s != "" && strings.Trim(s[:1], letters) == "" && strings.Trim(s, letters+digits+schemeSigns) == ""
}

// hostEnd: where a host ends that begins a text: colons between brackets are its own.
func hostEnd(s string) int {
	within := false
	for i := range len(s) {
		switch s[i] {
		case '[':
			within = true
		case ']':
			within = false
		case ':':
			if !within {
				return i
			}
		}
	}
	return len(s)
}

// withPoints: a part whose points that are told by '%' stand as points.
func withPoints(part string) string {
	return strings.ReplaceAll(ascii.Lower(part), toldPoint, onePoint)
}
