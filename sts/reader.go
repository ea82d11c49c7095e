package sts

import (
	"strings"

	"footman/api"
	"footman/ascii"
)

const (
	partEnd = ";"
	nameEnd = "="
	quote   = `"`
	escape  = `\`
	blanks  = " \t"

	firstSign  = ' '
	tabulator  = '\t'
	deleteByte = 127
)

// reader cuts a value's rest from its beginning on. Its steps panic where the value may not be, so none has to ask how those ahead of it went.
type reader struct {
	rest string
	told map[string]saying
}

// saying is what a directive says. A text in quotes may be empty, so has tells whether there is any.
type saying struct {
	text string
	has  bool
}

// need is where every step gives up.
func need(holds bool) {
	if !holds {
		panic(api.ErrForm)
	}
}

func (r *reader) wish() api.Wish {
	r.directive()
	for r.cut(partEnd) {
		r.directive()
	}
	subs, has := r.said(subsName)
	need(!subs.has)
	// An age that is not told says nothing, as one without a value does: both are no digits.
	age, _ := r.said(ageName)
	return api.Wish{Age: ageOf(age.text), Subs: has}
}

func (r *reader) said(name string) (saying, bool) {
	s, has := r.told[ascii.Lower(name)]
	return s, has
}

// directive reads up to where the next one begins, or to the end. It may be empty, but with an equals sign it needs a name.
func (r *reader) directive() {
	name := r.until(nameEnd + partEnd)
	has := r.cut(nameEnd)
	if name == "" && !has {
		return
	}
	need(ascii.Token(name))
	_, twice := r.said(name)
	need(!twice)
	s := saying{has: has}
	if has {
		s.text = r.value()
	}
	r.told[ascii.Lower(name)] = s
}

func (r *reader) value() string {
	r.rest = strings.TrimLeft(r.rest, blanks)
	if r.cut(quote) {
		return r.quoted()
	}
	text := r.until(partEnd)
	need(ascii.Token(text))
	return text
}

// quoted reads behind the first quotation mark, up to where the directive ends.
func (r *reader) quoted() string {
	var text []byte
	for !r.cut(quote) {
		// What stands behind an escape is never looked at as a quotation mark or an escape.
		r.cut(escape)
		text = append(text, r.sign())
	}
	need(r.until(partEnd) == "")
	return string(text)
}

func (r *reader) sign() byte {
	need(r.rest != "")
	c := r.rest[0]
	need(c == tabulator || c >= firstSign && c != deleteByte)
	r.rest = r.rest[1:]
	return c
}

func (r *reader) cut(text string) bool {
	rest, ok := strings.CutPrefix(r.rest, text)
	r.rest = rest
	return ok
}

// until: what stands ahead of the first of some bytes, or of the end, without blanks at its ends.
func (r *reader) until(ends string) string {
	end := strings.IndexAny(r.rest, ends)
	if end < 0 {
		end = len(r.rest)
	}
	text := r.rest[:end]
	r.rest = r.rest[end:]
	return ascii.Trim(text)
}

func ageOf(digits string) int {
	need(digits != "")
	age := 0
	for i := range len(digits) {
		digit, ok := ascii.Number(digits[i:i+1], 9)
		need(ok)
		age = min(age*10+digit, mostAge)
	}
	return age
}
