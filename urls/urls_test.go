package urls_test

import (
	"fmt"
	"math/rand"
	"regexp"
	"slices"
	"strconv"
	"strings"
	"testing"

	"footman/api"
	"footman/hosts"
	"footman/percent"
	"footman/urls"
)

func parsed(t *testing.T, s string) api.URL {
	t.Helper()
	u, err := urls.Parse(s, api.URL{}, false)
	if err != api.OK {
		t.Fatalf("Parse(%.60q): %d", s, err)
	}
	return u
}

// wantURL: what a text says alone.
func wantURL(t *testing.T, s string, want api.URL) {
	t.Helper()
	if got, err := urls.Parse(s, api.URL{}, false); got != want || err != api.OK {
		t.Errorf("Parse(%.60q): %s, %d, not %s", s, shown(got), err, shown(want))
	}
}

// wantAlone: the text of what a text says alone.
func wantAlone(t *testing.T, s, want string) {
	t.Helper()
	u, err := urls.Parse(s, api.URL{}, false)
	if got := urls.Text(u); got != want || err != api.OK {
		t.Errorf("Parse(%.60q): %.200q, %d, not %.200q", s, got, err, want)
	}
}

// wantSeen: the text of what a text says, seen from an address.
func wantSeen(t *testing.T, s, base, want string) {
	t.Helper()
	u, err := urls.Parse(s, parsed(t, base), true)
	if got := urls.Text(u); got != want || err != api.OK {
		t.Errorf("Parse(%.60q), seen from %.60q: %.200q, %d, not %.200q", s, base, got, err, want)
	}
}

func wantRefused(t *testing.T, s string, want api.Errno) {
	t.Helper()
	if got, err := urls.Parse(s, api.URL{}, false); got != (api.URL{}) || err != want {
		t.Errorf("Parse(%.60q): %s, %d, not %d", s, shown(got), err, want)
	}
}

func wantSeenRefused(t *testing.T, s string, base api.URL, want api.Errno) {
	t.Helper()
	if got, err := urls.Parse(s, base, true); got != (api.URL{}) || err != want {
		t.Errorf("Parse(%.60q), seen from %s: %s, %d, not %d", s, shown(base), shown(got), err, want)
	}
}

// bare is http://h/, which tests change.
func bare() api.URL { return api.URL{Scheme: "http", Host: "h", Port: -1, Path: "/"} }

// changed is http://h/ with a change.
func changed(change func(u *api.URL)) api.URL {
	u := bare()
	change(&u)
	return u
}

// shown: an address, cut where it is long.
func shown(u api.URL) string {
	s := fmt.Sprintf("%+v", u)
	return s[:min(len(s), 200)]
}

func oneByte(c byte) string { return string([]byte{c}) }

var beginsWithScheme = regexp.MustCompile(`^([A-Za-z][A-Za-z0-9+.\-]*):`)

// parseByWords does what the chapter's words say, in their order.
func parseByWords(s string, base api.URL, has bool) (api.URL, api.Errno) {
	if len(s) > 4096 {
		return api.URL{}, api.ErrLimit
	}
	if has && !checkByWords(base) {
		return api.URL{}, api.ErrArg
	}
	for s != "" && s[0] <= 32 {
		s = s[1:]
	}
	for s != "" && s[len(s)-1] <= 32 {
		s = s[:len(s)-1]
	}
	s = string(slices.DeleteFunc([]byte(s), func(c byte) bool { return c == 9 || c == 10 || c == 13 }))
	u := api.URL{Port: -1}
	told := beginsWithScheme.FindStringSubmatch(s)
	switch {
	case told != nil:
		u.Scheme = strings.ToLower(told[1])
		if u.Scheme != "http" && u.Scheme != "https" {
			return api.URL{}, api.ErrScheme
		}
		s = s[len(told[0]):]
	case !has:
		return api.URL{}, api.ErrForm
	default:
		u.Scheme = base.Scheme
	}
	if at := strings.Index(s, "#"); at >= 0 {
		u.Mark, u.HasMark, s = percent.Encode(s[at+1:], api.SetFragment), true, s[:at]
	}
	if at := strings.Index(s, "?"); at >= 0 {
		u.Query, u.HasQuery, s = percent.Encode(s[at+1:], api.SetQuery), true, s[:at]
	}
	err := api.OK
	if told != nil && !(has && u.Scheme == base.Scheme && !strings.HasPrefix(s, "//")) {
		err = placeByWords(&u, strings.TrimLeft(s, `/\`))
	} else {
		err = seenByWords(&u, s, base)
	}
	if err == api.OK && len(textByWords(u)) > 4096 {
		err = api.ErrLimit
	}
	if err != api.OK {
		return api.URL{}, err
	}
	return u, api.OK
}

func seenByWords(u *api.URL, s string, base api.URL) api.Errno {
	ahead := len(s) - len(strings.TrimLeft(s, `/\`))
	if ahead >= 2 {
		return placeByWords(u, s[ahead:])
	}
	u.User, u.Pass, u.Host, u.Port = base.User, base.Pass, base.Host, base.Port
	switch {
	case ahead == 1:
		u.Path = pathByWords(nil, s[1:])
	case s != "":
		parts := strings.Split(base.Path[1:], "/")
		u.Path = pathByWords(parts[:len(parts)-1], s)
	default:
		u.Path = base.Path
		if !u.HasQuery {
			u.Query, u.HasQuery = base.Query, base.HasQuery
		}
	}
	return api.OK
}

func placeByWords(u *api.URL, s string) api.Errno {
	path := ""
	if at := strings.IndexAny(s, `/\`); at >= 0 {
		s, path = s[:at], s[at+1:]
	}
	if at := strings.LastIndex(s, "@"); at >= 0 {
		user, pass, _ := strings.Cut(s[:at], ":")
		u.User, u.Pass, s = percent.Encode(user, api.SetUser), percent.Encode(pass, api.SetUser), s[at+1:]
	}
	host, port := s, ""
	for at := 0; at < len(s); at++ {
		if s[at] == '[' {
			length := strings.Index(s[at:], "]")
			if length < 0 {
				break
			}
			at += length
		} else if s[at] == ':' {
			host, port = s[:at], s[at+1:]
			break
		}
	}
	host, err := hosts.Parse(host)
	if host == "" || err != api.OK {
		return api.ErrHost
	}
	u.Host = host
	if port != "" {
		number := 0
		for i := range len(port) {
			if port[i] < '0' || port[i] > '9' {
				return api.ErrForm
			}
			number = min(number*10+int(port[i]-'0'), 65536)
		}
		if number > 65535 {
			return api.ErrForm
		}
		u.Port = number
	}
	if u.Scheme == "http" && u.Port == 80 || u.Scheme == "https" && u.Port == 443 {
		u.Port = -1
	}
	u.Path = pathByWords(nil, path)
	return api.OK
}

func pathByWords(parts []string, rest string) string {
	steps := regexp.MustCompile(`[/\\]`).Split(rest, -1)
	for i, step := range steps {
		last := i == len(steps)-1
		switch strings.ToLower(step) {
		case ".", "%2e":
			if last {
				parts = append(parts, "")
			}
		case "..", ".%2e", "%2e.", "%2e%2e":
			if len(parts) > 0 {
				parts = parts[:len(parts)-1]
			}
			if last {
				parts = append(parts, "")
			}
		default:
			parts = append(parts, percent.Encode(step, api.SetPath))
		}
	}
	path := ""
	for _, part := range parts {
		path += "/" + part
	}
	return path
}

func textByWords(u api.URL) string {
	out := u.Scheme + "://"
	if u.User != "" || u.Pass != "" {
		out += u.User
		if u.Pass != "" {
			out += ":" + u.Pass
		}
		out += "@"
	}
	out += u.Host
	if u.Port >= 0 {
		out += ":" + strconv.Itoa(u.Port)
	}
	out += u.Path
	if u.HasQuery {
		out += "?" + u.Query
	}
	if u.HasMark {
		out += "#" + u.Mark
	}
	return out
}

func checkByWords(u api.URL) bool {
	again, err := parseByWords(textByWords(u), api.URL{}, false)
	return err == api.OK && again == u
}

// someTexts are made from a fixed seed, of pieces, so that many are nearly addresses.
func someTexts(seed int64, count, most int, pieces []string) []string {
	r := rand.New(rand.NewSource(seed))
	texts := []string{""}
	for range count {
		var text strings.Builder
		for range 1 + r.Intn(most) {
			text.WriteString(pieces[r.Intn(len(pieces))])
		}
		texts = append(texts, text.String())
	}
	return texts
}

// nearlyURLs are addresses, what is seen from one, and what is neither.
func nearlyURLs() []string {
	texts := someTexts(1, 20000, 9, []string{
		"/", "/", "/", "\\", ":", ":", "@", "?", "#", ".", "..", "%2e", "%2E", "a", "b", "Z", "http", "http:", "https:", "http://", "HTTPS://", "//", "//h", "80", "443", "0", "65536", "[", "]", "[::1]", "1.2.3.4", "é", "\xff", "%", "'", "\"", " ", "\t", "\n", "\x00", "|", "^", "+", "-",
	})
	for _, rest := range someTexts(2, 10000, 8, []string{"/", "/", "\\", ":", "@", "?", "#", ".", "..", "h", "u", "80", "443", "8", "00", "[::1]", "[", "]", "\t", "é", " ", "'"}) {
		texts = append(texts, "http:"+rest, "https://"+rest)
	}
	for _, rest := range someTexts(3, 10000, 9, []string{"/", "/", "/", "\\", ".", "..", "%2e", ".%2E", "...", "a", "b;c", "%", "?", "#", " ", "é"}) {
		texts = append(texts, rest, "http://h/"+rest)
	}
	return texts
}

// someBases may be, all of them.
func someBases(t *testing.T) []api.URL {
	t.Helper()
	var bases []api.URL
	for _, s := range []string{"http://a/b/c/d;p?q", "https://u:p@h:8/", "http://h?", "https://[::1]/a//b/?x#y", "http://:p@1.2.3.4:443//"} {
		bases = append(bases, parsed(t, s))
	}
	return bases
}

// P6.1: the chapter's examples.
func TestParseOfTheExamples(t *testing.T) {
	wantAlone(t, " HTTP://User@ExAmple.com:80/a/./b/../c?x#y ", "http://User@example.com/a/c?x#y")
	wantAlone(t, "https:\\\\h\\a b\"?'#`", "https://h/a%20b%22?%27#%60")
	wantAlone(t, "http:h", "http://h/")
	wantAlone(t, "http:///h", "http://h/")
	wantAlone(t, "http://h?q", "http://h/?q")
	wantAlone(t, "http://a@b:c@h/", "http://a%40b:c@h/")
	const base = "http://a/b/c/d;p?q"
	for s, want := range map[string]string{
		"g": "http://a/b/c/g", "./g": "http://a/b/c/g", "g/": "http://a/b/c/g/", "/g": "http://a/g", "//g": "http://g/", "?y": "http://a/b/c/d;p?y", "g?y": "http://a/b/c/g?y", "#s": "http://a/b/c/d;p?q#s", "": base,
		"..": "http://a/b/", "../g": "http://a/b/g", "../../../g": "http://a/g", "g;x=1/../y": "http://a/b/c/y", "http:g": "http://a/b/c/g",
	} {
		wantSeen(t, s, base, want)
	}
	for s, want := range map[string]api.Errno{
		"x": api.ErrForm, "ftp://h": api.ErrScheme, "http://": api.ErrHost, "http://h:99999/": api.ErrForm, "http://h:1x/": api.ErrForm, "http://@/": api.ErrHost, "http://a b/": api.ErrHost,
	} {
		wantRefused(t, s, want)
	}
}

// P6.1: each field of what is answered, so that none is hidden by Text.
func TestParseFillsEachField(t *testing.T) {
	all := api.URL{Scheme: "https", User: "u", Pass: "p", Host: "h", Port: 8, Path: "/a/b", Query: "q", HasQuery: true, Mark: "m", HasMark: true}
	wantURL(t, "https://u:p@h:8/a/b?q#m", all)
	wantURL(t, "http://h", bare())
	wantURL(t, "http://h/?#", changed(func(u *api.URL) { u.HasQuery, u.HasMark = true, true }))
	wantURL(t, "http://:@h:80/", bare())
	if got, err := urls.Parse("", all, true); err != api.OK || got != (api.URL{Scheme: "https", User: "u", Pass: "p", Host: "h", Port: 8, Path: "/a/b", Query: "q", HasQuery: true}) {
		t.Errorf("%+v, %d", got, err)
	}
	if got, err := urls.Parse("/", all, true); err != api.OK || got != (api.URL{Scheme: "https", User: "u", Pass: "p", Host: "h", Port: 8, Path: "/"}) {
		t.Errorf("%+v, %d", got, err)
	}
	if got, err := urls.Parse("x", all, true); err != api.OK || got != (api.URL{Scheme: "https", User: "u", Pass: "p", Host: "h", Port: 8, Path: "/a/x"}) {
		t.Errorf("%+v, %d", got, err)
	}
	if got, err := urls.Parse("//x", all, true); err != api.OK || got != (api.URL{Scheme: "https", Host: "x", Port: -1, Path: "/"}) {
		t.Errorf("%+v, %d", got, err)
	}
}

// P6.1: MaxURL bytes of a text, and one more, whatever they are: they are counted ahead of all else.
func TestParseOfLongTexts(t *testing.T) {
	for _, part := range []string{"a", " ", "\t", "/", ".", "../", ":", "@", "#", "?", "%", "é", "\xff", "ftp:", "http:", "http://h:x/"} {
		s := strings.Repeat(part, api.MaxURL)[:api.MaxURL]
		if _, err := urls.Parse(s, api.URL{}, false); err == api.ErrLimit || err == api.OK {
			t.Errorf("Parse of %d bytes, %.20q: %d", len(s), s, err)
		}
		wantRefused(t, s+"a", api.ErrLimit)
		wantRefused(t, s+" ", api.ErrLimit)
		wantRefused(t, s+s, api.ErrLimit)
		wantSeenRefused(t, s+" ", bare(), api.ErrLimit)
		wantSeenRefused(t, s+" ", api.URL{}, api.ErrLimit)
		wantSeenRefused(t, s, api.URL{}, api.ErrArg)
	}
	blanks := strings.Repeat(" ", api.MaxURL-len("http://h"))
	wantAlone(t, "http://h"+blanks, "http://h/")
	wantAlone(t, blanks+"http://h", "http://h/")
	wantRefused(t, "http://h"+blanks+" ", api.ErrLimit)
	wantRefused(t, " "+blanks+"http://h", api.ErrLimit)
	wantSeen(t, blanks+blanks[:8], "http://h/a?q", "http://h/a?q")
	wantRefused(t, strings.Repeat("a", 1<<20), api.ErrLimit)
}

// P6.1: MaxURL bytes of what a text says, and one more.
func TestParseOfLongAddresses(t *testing.T) {
	const begin = "http://h/"
	room := api.MaxURL - len(begin)
	for _, c := range []struct{ ahead, sign, told, fill string }{
		{"", "", "", "a"}, {"", "a ", "a%20", "a"}, {"", "é", "%C3%A9", "a"}, {"?", "'", "%27", "a"}, {"#", "`", "%60", "a"}, {"?", "\xff", "%FF", "b"}, {"a?b#", "<", "%3C", "c"},
	} {
		signs := min(room/4/max(len(c.told), 1), 900)
		s := c.ahead + strings.Repeat(c.sign, signs)
		told := c.ahead + strings.Repeat(c.told, signs)
		fill := strings.Repeat(c.fill, room-len(told))
		wantAlone(t, begin+s+fill, begin+told+fill)
		wantRefused(t, begin+s+fill+c.fill, api.ErrLimit)
		wantSeen(t, s+fill, begin, begin+told+fill)
		wantSeenRefused(t, s+fill+c.fill, bare(), api.ErrLimit)
	}
	wantRefused(t, begin+strings.Repeat(" a", 2000), api.ErrLimit)
	wantRefused(t, "http://"+strings.Repeat("@", 2000)+"@h", api.ErrLimit)
	wantRefused(t, "http://:"+strings.Repeat("@", 2000)+"@h", api.ErrLimit)
	few := strings.Repeat("./", 1000) + strings.Repeat("a/../", 100)
	wantAlone(t, begin+few, begin)

	// The slash behind the host, which no text has to tell, counts.
	user := strings.Repeat("u", api.MaxURL-len("http://@h/"))
	wantAlone(t, "http://"+user+"@h", "http://"+user+"@h/")
	wantRefused(t, "http://u"+user+"@h", api.ErrLimit)
	wantRefused(t, "http://"+user+"@h:8", api.ErrLimit)
	wantAlone(t, "http://"+user+"@h:", "http://"+user+"@h/")
}

// P6.1: seen from an address of MaxURL bytes.
func TestParseSeenFromLongAddresses(t *testing.T) {
	dir := "http://h/" + strings.Repeat("d", 3000) + "/"
	wantSeen(t, strings.Repeat("a", api.MaxURL-len(dir)), dir+"x", dir+strings.Repeat("a", api.MaxURL-len(dir)))
	wantSeenRefused(t, strings.Repeat("a", api.MaxURL-len(dir)+1), parsed(t, dir+"x"), api.ErrLimit)
	full := dir + strings.Repeat("a", api.MaxURL-len(dir))
	base := parsed(t, full)
	wantSeen(t, "", full, full)
	wantSeen(t, "b", full, dir+"b")
	wantSeenRefused(t, "#", base, api.ErrLimit)
	wantSeenRefused(t, "?", base, api.ErrLimit)
	wantSeen(t, "#", full[:api.MaxURL-1], full[:api.MaxURL-1]+"#")
	wantSeen(t, "?", full[:api.MaxURL-1], full[:api.MaxURL-1]+"?")
	wantSeen(t, "?", full[:api.MaxURL-2]+"?q", full[:api.MaxURL-2]+"?")
	base.Path += "a"
	wantSeenRefused(t, "b", base, api.ErrArg)
}

// P6.1: a base that may not be, with has set and without it.
func TestParseAsksOfBase(t *testing.T) {
	for _, base := range noAddresses() {
		for _, s := range []string{"", "g", "/g", "//g", "?", "#", "http://x/", "https:x", "ftp://h", "http://", "http://h:x", "\xff"} {
			wantSeenRefused(t, s, base, api.ErrArg)
			want, wantErr := urls.Parse(s, api.URL{}, false)
			if got, err := urls.Parse(s, base, false); got != want || err != wantErr {
				t.Errorf("Parse(%q), beside %+v: %+v, %d", s, base, got, err)
			}
		}
	}
	wantURL(t, "http://h", bare())
	for _, base := range someBases(t) {
		for _, s := range []string{"http://h", "http:h", "http:/h"} {
			if got, err := urls.Parse(s, base, false); got != bare() || err != api.OK {
				t.Errorf("Parse(%q), beside %+v: %+v, %d", s, base, got, err)
			}
		}
		for _, s := range []string{"", "g", "//g", "?q", "#", "/"} {
			if got, err := urls.Parse(s, base, false); got != (api.URL{}) || err != api.ErrForm {
				t.Errorf("Parse(%q), beside %+v: %+v, %d", s, base, got, err)
			}
		}
	}
}

// P6.1: each byte at both ends, and within: which are dropped.
func TestParseDropsBlanks(t *testing.T) {
	for i := range 256 {
		c := oneByte(byte(i))
		if i <= 32 {
			wantAlone(t, c+"http://h/a"+c, "http://h/a")
			wantAlone(t, " \x00"+c+"http://h/a"+c+"\x1f\t", "http://h/a")
			wantSeen(t, c+"g"+c+c, "http://h/a/b", "http://h/a/g")
			wantSeen(t, c+c, "http://h/a/b?q", "http://h/a/b?q")
		} else {
			wantRefused(t, c+" http://h/", api.ErrForm)
		}
		dropped := i == 9 || i == 10 || i == 13
		if dropped {
			wantAlone(t, "h"+c+"t"+c+c+"tp"+c+":"+c+"/"+c+"/"+c+"u"+c+":"+c+"p"+c+"@"+c+"h"+c+"i"+c+":"+c+"8"+c+"1"+c+"/"+c+"a"+c+"/."+c+".?q"+c+"r#m"+c+"n", "http://u:p@hi:81/?qr#mn")
			wantSeen(t, "."+c+"."+c+"/%"+c+"2"+c+"e/g", "http://h/a/b/c", "http://h/a/g")
			wantSeen(t, "/"+c+"/g", "http://h/a/b/c", "http://g/")
			wantSeen(t, "http:/"+c+"/g", "http://h/a/b/c", "http://g/")
		} else if i <= 32 {
			told := percent.Encode(c, api.SetQuery)
			wantAlone(t, "http://h/a"+c+"b?c"+c+"d#e"+c+"f", "http://h/a"+told+"b?c"+told+"d#e"+told+"f")
			wantRefused(t, "ht"+c+"tp://h/", api.ErrForm)
			wantRefused(t, "http"+c+"://h/", api.ErrForm)
			wantRefused(t, "http:"+c+"//h/", api.ErrHost)
			wantRefused(t, "http://"+c+"h/", api.ErrHost)
			wantRefused(t, "http://h:8"+c+"/", api.ErrForm)
		}
	}
	wantAlone(t, "http://h/a \t\n #", "http://h/a%20%20#")
	wantAlone(t, "http://h/\u0085a\u00a0", "http://h/%C2%85a%C2%A0")
	wantAlone(t, "http://h/\xe3\x80\x80", "http://h/%E3%80%80")
	wantAlone(t, "http://h/\xff\ta\xc3\n\xa9", "http://h/%FFa%C3%A9")
}

// P6.1: schemes.
func TestParseOfSchemes(t *testing.T) {
	for _, s := range []string{"http", "HTTP", "Http", "hTtP"} {
		wantAlone(t, s+"://h", "http://h/")
	}
	for _, s := range []string{"https", "HTTPS", "hTTpS"} {
		wantAlone(t, s+"://h", "https://h/")
	}
	for _, s := range []string{"ftp", "FTP", "h", "Z", "a", "z", "A", "htt", "httpss", "http+s", "http.", "http-", "a+.-0", "file", "ws", "wss", "z9", "mailto", "h0", "http2", "localhost"} {
		for _, rest := range []string{"", "//h", "//", "80", ":", "#", "//h:x"} {
			wantRefused(t, s+":"+rest, api.ErrScheme)
			wantSeenRefused(t, s+":"+rest, bare(), api.ErrScheme)
		}
	}
	for _, s := range []string{"1http", "+http", "-http", ".http", "ht_tp", "ht tp", "http ", "h/ttp", "http?", "http#", "ht%74p", "httpé", "é", "ht\xfftp", "", "@", "[", "`", "{", "/", ":", "http/", "h@", "\u212a", "\xff", "http\x00", "\u017fttp"} {
		wantRefused(t, s+"://h/", api.ErrForm)
	}
	for _, s := range []string{"http", "https", "h", "http//h", "//h", "/", "/h:8", "?a:b", "#a:b", "h/a:b", "1:", ":", ":80", "://h", "h h:8"} {
		wantRefused(t, s, api.ErrForm)
	}
	for i := range 256 {
		c := byte(i)
		letter := c|32 >= 'a' && c|32 <= 'z'
		sign := letter || c >= '0' && c <= '9' || c == '+' || c == '-' || c == '.'
		if c <= 32 {
			continue // dropped ahead of a text, and asked for above
		}
		wantFirst, wantLater := api.ErrForm, api.ErrForm
		if letter {
			wantFirst = api.ErrScheme
		}
		if sign || c == ':' {
			wantLater = api.ErrScheme
		}
		wantRefused(t, oneByte(c)+"x://h/", wantFirst)
		wantRefused(t, oneByte(c)+"://h/", wantFirst)
		wantRefused(t, "x"+oneByte(c)+"://h/", wantLater)
		wantRefused(t, "x"+oneByte(c)+"x://h/", wantLater)
	}
}

// P6.1: a colon that ends no scheme, seen from an address.
func TestParseSeenWithColons(t *testing.T) {
	for s, want := range map[string]string{
		"1:2": "/a/1:2", ":": "/a/:", ":80": "/a/:80", "/x:y": "/x:y", "./x:y": "/a/x:y", "?a:b": "/a/b?a:b", "#a:b": "/a/b?q#a:b", "x/y:z": "/a/x/y:z", "é:": "/a/%C3%A9:", "_:": "/a/_:", "%61:b": "/a/%61:b", "http%3A//x": "/a/http%3A//x", "a b:c": "/a/a%20b:c", "://x": "/a/://x", "-http:x": "/a/-http:x", "@:": "/a/@:",
	} {
		wantSeen(t, s, "http://h/a/b?q", "http://h"+want)
		wantSeen(t, s, "https://u:p@h:8/a/b?q", "https://u:p@h:8"+want)
	}
}

// P6.1: slashes behind a scheme, without a base: how many, and which, is all the same.
func TestParseOfSlashes(t *testing.T) {
	for _, ahead := range []string{"", "/", "\\", "//", "\\\\", "/\\", "\\/", "///", "\\\\\\", "/\\/\\/\\", "//////////"} {
		wantAlone(t, "http:"+ahead+"h", "http://h/")
		wantAlone(t, "https:"+ahead+"u@h:8/a?b#c", "https://u@h:8/a?b#c")
		wantRefused(t, "http:"+ahead, api.ErrHost)
		wantRefused(t, "http:"+ahead+"?q", api.ErrHost)
		wantRefused(t, "http:"+ahead+"#m", api.ErrHost)
		wantRefused(t, ahead, api.ErrForm)
		wantRefused(t, ahead+"h", api.ErrForm)
		for _, other := range []string{"http://x/y/z?q", "http://u:p@x:8/"} {
			wantSeen(t, "https:"+ahead+"h", other, "https://h/")
			wantSeen(t, "HTTPS:"+ahead+"h/../a", other, "https://h/a")
			wantSeenRefused(t, "https:"+ahead, parsed(t, other), api.ErrHost)
		}
	}
	wantAlone(t, "http://h\\a/b\\c\\", "http://h/a/b/c/")
	wantAlone(t, "http://h\\\\a", "http://h//a")
	wantAlone(t, "http://h/a\\..\\b", "http://h/b")
	wantAlone(t, "http://h/?a\\b/c#d\\e/f", "http://h/?a\\b/c#d\\e/f")
	wantAlone(t, "http://h?a\\b", "http://h/?a\\b")
	wantAlone(t, "http://h#\\\\", "http://h/#\\\\")
	wantAlone(t, "http://u\\@h/", "http://u/@h/")
	wantAlone(t, "http://h\\:80", "http://h/:80")
}

// P6.1: slashes, seen from an address, without a scheme and with its own.
func TestParseSeenWithSlashes(t *testing.T) {
	for _, scheme := range []string{"http", "https"} {
		base := scheme + "://u:p@x:8/y/z?q#m"
		place := scheme + "://u:p@x:8"
		for _, told := range []string{"", scheme + ":", strings.ToUpper(scheme) + ":", " \t" + scheme + ":"} {
			wantSeen(t, told, base, place+"/y/z?q")
			wantSeen(t, told+"h", base, place+"/y/h")
			wantSeen(t, told+"h/a?b#c", base, place+"/y/h/a?b#c")
			for _, one := range []string{"/", "\\"} {
				wantSeen(t, told+one, base, place+"/")
				wantSeen(t, told+one+"h", base, place+"/h")
				wantSeen(t, told+one+"h"+one+"a?b#c", base, place+"/h/a?b#c")
				wantSeen(t, told+one+".", base, place+"/")
				wantSeen(t, told+one+"?b", base, place+"/?b")
				wantSeen(t, told+one+"#c", base, place+"/#c")
			}
			for _, more := range []string{"//", "\\\\", "/\\", "\\/", "///", "\\/\\", "//\\\\//"} {
				wantSeen(t, told+more+"h", base, scheme+"://h/")
				wantSeen(t, told+more+"v@h:9/a?b#c", base, scheme+"://v@h:9/a?b#c")
				wantSeen(t, told+more+"h\\a", base, scheme+"://h/a")
				wantSeenRefused(t, told+more, parsed(t, base), api.ErrHost)
				wantSeenRefused(t, told+more+"?q", parsed(t, base), api.ErrHost)
				wantSeenRefused(t, told+more+":8", parsed(t, base), api.ErrHost)
				wantSeenRefused(t, told+more+"h:x", parsed(t, base), api.ErrForm)
			}
		}
		wantSeen(t, "a//b", base, place+"/y/a//b")
		wantSeen(t, "a\\\\b", base, place+"/y/a//b")
		wantSeen(t, ".//b", base, place+"/y//b")
		wantSeen(t, "/.//b", base, place+"//b")
	}
	for port, want := range map[string]string{"80": "https://h:80/", "443": "https://h/", "": "https://h/"} {
		wantSeen(t, "//h:"+port, "https://x/", want)
	}
	for port, want := range map[string]string{"80": "http://h/", "443": "http://h:443/", "": "http://h/"} {
		wantSeen(t, "//h:"+port, "http://x/", want)
	}
}

// P6.1: User and Pass.
func TestParseOfUsers(t *testing.T) {
	for s, want := range map[string][2]string{
		"": {}, ":": {}, "u": {"u"}, "u:": {"u"}, ":p": {"", "p"}, "u:p": {"u", "p"}, "U:P": {"U", "P"}, "u:p:q": {"u", "p%3Aq"}, "::": {"", "%3A"}, "u::": {"u", "%3A"}, "a@b": {"a%40b"}, "@": {"%40"}, "@@": {"%40%40"}, "a@b:c": {"a%40b", "c"}, "a:b@c": {"a", "b%40c"}, ":@": {"", "%40"}, "@:": {"%40"}, "@:@": {"%40", "%40"}, "a:b@c:d@e": {"a", "b%40c%3Ad%40e"},
		"a b": {"a%20b"}, "é": {"%C3%A9"}, "\xff:\xfe": {"%FF", "%FE"}, "%40": {"%40"}, "%": {"%"}, "%41:%zz": {"%41", "%zz"}, "[": {"%5B"}, "[a:b]": {"%5Ba", "b%5D"}, ";=|^": {"%3B%3D%7C%5E"}, "\"<>`{}": {"%22%3C%3E%60%7B%7D"}, "a'b": {"a'b"}, "!$&()*+,-._~": {"!$&()*+,-._~"}, "\x01:\x7f": {"%01", "%7F"}, "xn--9ca.": {"xn--9ca."}, "80": {"80"}, ":80": {"", "80"},
	} {
		wantURL(t, "http://"+s+"@h/", changed(func(u *api.URL) { u.User, u.Pass = want[0], want[1] }))
		wantURL(t, "http:"+s+"@h", changed(func(u *api.URL) { u.User, u.Pass = want[0], want[1] }))
		wantURL(t, "http://"+s+"@h:8?q", changed(func(u *api.URL) { u.User, u.Pass, u.Port, u.Query, u.HasQuery = want[0], want[1], 8, "q", true }))
	}
	wantAlone(t, "http://h/u@g", "http://h/u@g")
	wantAlone(t, "http://h/u:p@g:80/", "http://h/u:p@g:80/")
	wantAlone(t, "http://h?u@g", "http://h/?u@g")
	wantAlone(t, "http://h#u:p@g", "http://h/#u:p@g")
	wantAlone(t, "http://u@h/@", "http://u@h/@")
	wantAlone(t, "http://u?p@h/", "http://u/?p@h/")
	wantRefused(t, "http://u@", api.ErrHost)
	wantRefused(t, "http://u:p@/", api.ErrHost)
	wantRefused(t, "http://u:p@:80/", api.ErrHost)
	wantRefused(t, "http://h@?q", api.ErrHost)
	wantRefused(t, "http://h@#@h", api.ErrHost)
	wantRefused(t, "http://u:p", api.ErrForm)
	wantSeen(t, "//@h", "http://u:p@x/", "http://h/")
	wantSeen(t, "//v@h", "http://u:p@x/", "http://v@h/")
	wantSeen(t, "v@h", "http://u:p@x/", "http://u:p@x/v@h")
	wantSeen(t, "/v:w@h", "http://:p@x/", "http://:p@x/v:w@h")
}

// P6.1: each byte of a place, a path, a query and a mark, as the sets have it.
func TestParseEncodesEveryByte(t *testing.T) {
	for i := range 256 {
		c := oneByte(byte(i))
		if i == 9 || i == 10 || i == 13 {
			continue // dropped
		}
		told := func(set api.Set) string { return "x" + percent.Encode(c, set) + "x" }
		wantURL(t, "http://h/#x"+c+"x", changed(func(u *api.URL) { u.Mark, u.HasMark = told(api.SetFragment), true }))
		if c == "#" {
			continue
		}
		wantURL(t, "http://h/?x"+c+"x", changed(func(u *api.URL) { u.Query, u.HasQuery = told(api.SetQuery), true }))
		if c == "?" {
			continue
		}
		path := told(api.SetPath)
		if c == "\\" {
			path = "x/x"
		}
		wantURL(t, "http://h/x"+c+"x", changed(func(u *api.URL) { u.Path = "/" + path }))
		wantSeen(t, "./x"+c+"x", "http://h/a/b", "http://h/a/"+path)
		if c == "/" || c == "\\" || c == ":" {
			continue
		}
		wantURL(t, "http://x"+c+"x@h", changed(func(u *api.URL) { u.User = told(api.SetUser) }))
		wantURL(t, "http://:x"+c+"x@h", changed(func(u *api.URL) { u.Pass = told(api.SetUser) }))
	}
	wantURL(t, "http://:x:x@h", changed(func(u *api.URL) { u.Pass = "x%3Ax" }))
	wantURL(t, "http://h/%41%zz%?%41%zz%#%41%zz%", changed(func(u *api.URL) {
		u.Path, u.Query, u.HasQuery, u.Mark, u.HasMark = "/%41%zz%", "%41%zz%", true, "%41%zz%", true
	}))
}

// P6.1: hosts, with brackets and without them, and what hosts.Parse refuses.
func TestParseOfHosts(t *testing.T) {
	for s, want := range map[string]string{
		"h": "h", "H.": "h", "ExAmple.COM": "example.com", "b%C3%BCcher.de": "xn--bcher-kva.de", "bücher": "xn--bcher-kva", "0x7f.1": "127.0.0.1", "1": "0.0.0.1", "4294967295": "255.255.255.255", "a_b.-": "a_b.-", "a\"b": "a\"b", "a%2eb": "a.b", "%68": "h", "!$&'()*+,;=`{}~": "!$&'()*+,;=`{}~",
		"[::]": "[::]", "[::0:1]": "[::1]", "[1:2:3:4:5:6:7:8]": "[1:2:3:4:5:6:7:8]", "[::1.2.3.4]": "[::102:304]", "[ABCD::]": "[abcd::]",
	} {
		for told, port := range map[string]int{"": -1, ":": -1, ":80": -1, ":8": 8, ":0": 0} {
			wantURL(t, "http://"+s+told, changed(func(u *api.URL) { u.Host, u.Port = want, port }))
			wantURL(t, "http:u@"+s+told+"\\a", changed(func(u *api.URL) { u.User, u.Host, u.Port, u.Path = "u", want, port, "/a" }))
		}
	}
	for _, s := range []string{
		"", ".", "..", "a..b", ".a", "a b", "a%00", "%", "%zz", "a%2", "a<b", "a>b", "a^b", "a|b", "a%3A8", "a%2fb", "a%40b", "a%5bb", "\x01", "a\x7f", "1.2.3.256", "1.2.3.4.5", "a.1", "08", "xn--k", "xn--", strings.Repeat("a", 64), strings.Repeat("a.", 128), "\xff", "\xc3", "a.\xa9\xc3", "\xed\xa0\x80", "%ff", "%c3",
		"[", "]", "[]", "[[", "[::1", "[::1]]", "[[::1]", "[[::1]]", "[::1]a", "a[::1]", "[::1].", "[a]", "[1.2.3.4]", "[::1][::2]", "a]", "a[b", "[a:b", "[:", "[::1::2]", "[::%31]", "[1:2]", "%5B::1%5D", "[::1]80", "::1", "::1]", ":", "::", ":]",
	} {
		wantRefused(t, "http://"+s, api.ErrHost)
		wantRefused(t, "http://u@"+s+"/", api.ErrHost)
		wantRefused(t, "https:"+s+"?q#m", api.ErrHost)
		wantSeenRefused(t, "//"+s, bare(), api.ErrHost)
		for _, port := range []string{":80", ":x", ":99999"} {
			wantRefused(t, "http://"+s+port, api.ErrHost)
		}
	}
	wantRefused(t, "http://[::1]:80[", api.ErrForm)
	wantRefused(t, "http://h::1]", api.ErrForm)
	wantRefused(t, "http://h:[::1]", api.ErrForm)
	wantRefused(t, "http://h:[8", api.ErrForm)
	wantRefused(t, "http://[::1:80", api.ErrHost)
	wantRefused(t, "http://[::1/]:80", api.ErrHost)
	wantAlone(t, "http://[u@h", "http://%5Bu@h/")
	wantAlone(t, "http://[:@[::1]:8", "http://%5B@[::1]:8/")
	wantAlone(t, "http://]@[::1]", "http://%5D@[::1]/")
}

// P6.1: ports.
func TestParseOfPorts(t *testing.T) {
	for _, scheme := range []string{"http", "https"} {
		for told, port := range map[string]int{
			"": -1, ":": -1, ":0": 0, ":00": 0, ":1": 1, ":8": 8, ":008": 8, ":79": 79, ":81": 81, ":80": 80, ":0080": 80, ":443": 443, ":000443": 443, ":442": 442, ":444": 444, ":8080": 8080, ":65535": 65535, ":0065535": 65535, ":" + strings.Repeat("0", 17) + "8": 8, ":" + strings.Repeat("0", 18) + "8": 8, ":" + strings.Repeat("0", 19) + "80": 80, ":" + strings.Repeat("0", 19): 0, ":" + strings.Repeat("0", 4000) + "65535": 65535, ":" + strings.Repeat("0", 4000): 0,
		} {
			if scheme == "http" && port == 80 || scheme == "https" && port == 443 {
				port = -1
			}
			for _, rest := range []string{"", "/"} {
				wantURL(t, scheme+"://h"+told+rest, api.URL{Scheme: scheme, Host: "h", Port: port, Path: "/"})
				wantURL(t, scheme+"://[::1]"+told+rest, api.URL{Scheme: scheme, Host: "[::1]", Port: port, Path: "/"})
				wantURL(t, scheme+":u:9@1.2"+told+rest, api.URL{Scheme: scheme, User: "u", Pass: "9", Host: "1.0.0.2", Port: port, Path: "/"})
			}
		}
		for _, told := range []string{
			"65536", "065536", "99999", "100000", "655350", "4294967296", "4294967376", "18446744073709551616", "18446744073709551696", strings.Repeat("9", 18), strings.Repeat("9", 19), strings.Repeat("1", 3000), strings.Repeat("0", 4000) + "65536",
			"x", "1x", "x1", "8 0", "+8", "-1", "-0", "8.0", "8,0", ":", "8:", ":8", "8:0", "0x50", "1e3", "%38", "８", "\xff", "8\xff", "[", "]", "[8]", "_", "8_0", "00x", strings.Repeat("0", 100) + "x", strings.Repeat("0", 100) + "-1",
		} {
			wantRefused(t, scheme+"://h:"+told, api.ErrForm)
			wantRefused(t, scheme+"://h:"+told+"/a?b#c", api.ErrForm)
			wantRefused(t, scheme+"://[::1]:"+told, api.ErrForm)
			wantRefused(t, scheme+"://u@h:"+told, api.ErrForm)
			wantRefused(t, scheme+"://:"+told, api.ErrHost)
			wantRefused(t, scheme+"://a b:"+told, api.ErrHost)
			wantSeenRefused(t, "//h:"+told, bare(), api.ErrForm)
		}
	}
	for i := range 256 {
		c := oneByte(byte(i))
		if c != "\t" && c != "\n" && c != "\r" && !strings.Contains("0123456789/\\?#@", c) {
			wantRefused(t, "http://h:8"+c+"8/", api.ErrForm)
		}
	}
	wantSeen(t, "https:h:80", "http://x/", "https://h:80/")
	wantSeen(t, "g", "https://x:80/", "https://x:80/g")
	wantSeen(t, "http://h:443", "https://x/", "http://h:443/")
}

// P6.1: one point and two points, in all their spellings, in the middle and at the end.
func TestParseOfPoints(t *testing.T) {
	for _, one := range []string{".", "%2e", "%2E"} {
		for s, want := range map[string]string{
			one: "", one + "/": "", "a/" + one: "a/", "a/" + one + "/": "a/", "a/" + one + "/b": "a/b", one + "/a": "a", one + "/" + one: "", "a/" + one + "\\" + one: "a/", "a//" + one: "a//", "a/" + one + "//b": "a//b", "/" + one: "/", one + "//" + one: "/",
			"a" + one: "a" + one, one + "a": one + "a", "a/b" + one + "/c": "a/b" + one + "/c",
		} {
			wantAlone(t, "http://h/"+s, "http://h/"+want)
			wantAlone(t, "http://h\\"+s+"?"+one+"/"+one, "http://h/"+want+"?"+one+"/"+one)
			wantAlone(t, "http://h/x/"+s+"#"+one+"/"+one, "http://h/x/"+want+"#"+one+"/"+one)
			wantSeen(t, "y/"+s, "http://h/x/z", "http://h/x/y/"+want)
		}
	}
	for _, two := range []string{"..", ".%2e", ".%2E", "%2e.", "%2E.", "%2e%2e", "%2e%2E", "%2E%2e", "%2E%2E"} {
		for s, want := range map[string]string{
			two: "", two + "/": "", "a/" + two: "", "a/" + two + "/": "", "a/" + two + "/b": "b", two + "/a": "a", two + "/" + two + "/a": "a", "a/b/" + two: "a/", "a/b/" + two + "/": "a/", "a/b/" + two + "/c": "a/c", "a/b/" + two + "\\" + two: "", "a/b/c/" + two + "/" + two + "/d": "a/d", "a//" + two: "a/", "a//" + two + "/b": "a/b", "a/" + two + "//b": "/b", "/" + two: "", "//" + two: "/", "a/" + two + "/" + two + "/" + two + "/b": "b", "a/./" + two: "", "a/" + two + "/.": "",
			"a" + two: "a" + two, two + "a": two + "a", "a/b" + two + "/c": "a/b" + two + "/c", two + ".": two + ".", "a/" + two + "%2e/b": "a/" + two + "%2e/b", two + two: two + two,
		} {
			wantAlone(t, "http://h/"+s, "http://h/"+want)
			wantAlone(t, "http://h\\"+s+"?"+two+"/"+two, "http://h/"+want+"?"+two+"/"+two)
			wantSeen(t, "http://g/"+s+"#"+two+"/"+two, "http://h/x/y", "http://g/"+want+"#"+two+"/"+two)
			if s[0] != '/' {
				wantSeen(t, "/"+s, "http://h/x/y", "http://h/"+want)
			}
		}
		for s, want := range map[string]string{
			two: "/a/b/", two + "/": "/a/b/", two + "/g": "/a/b/g", two + "/" + two: "/a/", two + "\\" + two + "/g": "/a/g", two + "/" + two + "/" + two: "/", two + "/" + two + "/" + two + "/" + two: "/", two + "/" + two + "/" + two + "/" + two + "/g": "/g", "g/" + two: "/a/b/c/", "g/" + two + "/" + two + "/f": "/a/b/f", "g" + two: "/a/b/c/g" + two, two + "?y": "/a/b/?y", two + "#s": "/a/b/#s",
		} {
			wantSeen(t, s, "http://h/a/b/c/d?q#m", "http://h"+want)
			wantSeen(t, "http:"+s, "http://h/a/b/c/d?q#m", "http://h"+want)
		}
	}
	for _, s := range []string{"...", "%2e%2e%2e", "%2", "%2e%", "%252e", "%%2e2e", "%2e2e", ".%2", "%2f", ". .", ".;", "..;a", "%2e%2f", "%2ee", "2e", "%u002e", "．", "。"} {
		told := percent.Encode(s, api.SetPath)
		wantAlone(t, "http://h/a/"+s, "http://h/a/"+told)
		wantAlone(t, "http://h/a/"+s+"/b", "http://h/a/"+told+"/b")
		wantSeen(t, s, "http://h/a/b", "http://h/a/"+told)
	}
	wantAlone(t, "http://h/a/.\t./b", "http://h/b")
	wantAlone(t, "http://h/a/.. /b", "http://h/a/..%20/b")
	wantAlone(t, "http://h./../a", "http://h/a")
}

// P6.1: a query and a mark, each empty, and each within the other.
func TestParseOfEnds(t *testing.T) {
	for s, want := range map[string]api.URL{
		"":      {},
		"?":     {HasQuery: true},
		"#":     {HasMark: true},
		"?#":    {HasQuery: true, HasMark: true},
		"#?":    {Mark: "?", HasMark: true},
		"?q":    {Query: "q", HasQuery: true},
		"#m":    {Mark: "m", HasMark: true},
		"?q#m":  {Query: "q", HasQuery: true, Mark: "m", HasMark: true},
		"?#m":   {HasQuery: true, Mark: "m", HasMark: true},
		"?q#":   {Query: "q", HasQuery: true, HasMark: true},
		"#m?q":  {Mark: "m?q", HasMark: true},
		"#?#":   {Mark: "?#", HasMark: true},
		"##":    {Mark: "#", HasMark: true},
		"??":    {Query: "?", HasQuery: true},
		"?q?r":  {Query: "q?r", HasQuery: true},
		"?#?":   {HasQuery: true, Mark: "?", HasMark: true},
		"?q#m#": {Query: "q", HasQuery: true, Mark: "m#", HasMark: true},
		"?/..":  {Query: "/..", HasQuery: true},
		"?//u@": {Query: "//u@", HasQuery: true},
		"#//u@": {Mark: "//u@", HasMark: true},
		"?'`^":  {Query: "%27`^", HasQuery: true},
		"#'`^":  {Mark: "'%60^", HasMark: true},
		"?%23":  {Query: "%23", HasQuery: true},
		"?é":    {Query: "%C3%A9", HasQuery: true},
		"#\xff": {Mark: "%FF", HasMark: true},
	} {
		want.Scheme, want.Host, want.Port, want.Path = "http", "h", -1, "/"
		wantURL(t, "http://h"+s, want)
		wantURL(t, "http:h/"+s, want)
		want.Path = "/a/"
		wantURL(t, "http://h/a/"+s, want)
		wantURL(t, "http://h/a/b/.."+s, want)
		for _, seen := range []string{".", "./", "/a/", "http:.", "//h/a/", "../a/./"} {
			if got, err := urls.Parse(seen+s, parsed(t, "http://h/a/b?c#d"), true); got != want || err != api.OK {
				t.Errorf("Parse(%q): %+v, %d, not %+v", seen+s, got, err, want)
			}
		}
	}
}

// P6.1: an empty text, a mark alone and a query alone, seen from a base with a query and without one.
func TestParseSeenWithEndsAlone(t *testing.T) {
	for _, mark := range []string{"", "#", "#d"} {
		for s, want := range map[string]string{
			"": "?c", " \t\n\x00": "?c", "#": "?c#", "#s": "?c#s", "#?y": "?c#?y", "?": "?", "?y": "?y", "?y#s": "?y#s", "?#": "?#", "?#s": "?#s", "http:": "?c", "http:#": "?c#", "http:?": "?", "HTTP:?y#s": "?y#s",
		} {
			wantSeen(t, s, "http://u:p@h:8/a/b?c"+mark, "http://u:p@h:8/a/b"+want)
			wantSeen(t, s, "http://h/?c"+mark, "http://h/"+want)
			wantSeen(t, s, "http://h/a//?c"+mark, "http://h/a//"+want)
			without := strings.TrimPrefix(want, "?c")
			wantSeen(t, s, "http://h/a/b"+mark, "http://h/a/b"+without)
			wantSeen(t, s, "http://h"+mark, "http://h/"+without)
			if without != want {
				without = "?" + without
			}
			wantSeen(t, s, "http://h/a/b?"+mark, "http://h/a/b"+without)
		}
	}
	wantSeen(t, "x", "http://h/a/b?c/d#e/f", "http://h/a/x")
	wantSeen(t, "x", "http://h", "http://h/x")
	wantSeen(t, "x", "http://h/a/", "http://h/a/x")
	wantSeen(t, "x", "http://h//", "http://h//x")
	wantSeen(t, "..", "http://h//", "http://h/")
	wantSeen(t, ".", "http://h//a", "http://h//")
	wantSeen(t, "../..", "http://h///a", "http://h/")
	wantSeen(t, "x", "http://h/%20/a%2fb", "http://h/%20/x")
}

// P6.1: which error is answered where several apply.
func TestParseTellsTheFirstError(t *testing.T) {
	long := strings.Repeat(" a", 1500)
	wantRefused(t, "ftp://a b:x/"+long, api.ErrScheme)
	wantRefused(t, "http://a b:x/"+long, api.ErrHost)
	wantRefused(t, "http://h:x/"+long, api.ErrForm)
	wantRefused(t, "http://h:8/"+long, api.ErrLimit)
	wantRefused(t, "x"+long, api.ErrForm)
	wantSeenRefused(t, "ftp:", api.URL{}, api.ErrArg)
	wantSeenRefused(t, "x"+long, api.URL{}, api.ErrArg)
	wantSeenRefused(t, "x"+long, bare(), api.ErrLimit)
	wantSeenRefused(t, "//a b:x/"+long, bare(), api.ErrHost)
}

// P6.1: wrong inputs.
func TestParseOfWrongTexts(t *testing.T) {
	for s, want := range map[string]api.Errno{
		"": api.ErrForm, " ": api.ErrForm, "\t\r\n\x00\x1f": api.ErrForm, "http": api.ErrForm, "http:": api.ErrHost, "https:": api.ErrHost, " http: ": api.ErrHost, "/": api.ErrForm, "\\": api.ErrForm, "//": api.ErrForm, "////": api.ErrForm, "?": api.ErrForm, "#": api.ErrForm, ":": api.ErrForm, "@": api.ErrForm, "\xff": api.ErrForm, "\xff:": api.ErrForm, "é://h": api.ErrForm, "http://\xff/": api.ErrHost, "http://\xc3\xa9\xff": api.ErrHost, "http://h:\xff": api.ErrForm, "http://?": api.ErrHost, "http://#": api.ErrHost, "http:/": api.ErrHost, "http:////": api.ErrHost, "http:\\": api.ErrHost, "http://:": api.ErrHost, "http://:@": api.ErrHost, "http://@": api.ErrHost, "http://./": api.ErrHost, "http:..": api.ErrHost, "http:.": api.ErrHost, "http:?q": api.ErrHost, "javascript:1": api.ErrScheme, "data:,": api.ErrScheme, "about:blank": api.ErrScheme, "x:": api.ErrScheme,
	} {
		wantRefused(t, s, want)
	}
}

// P6.1, P6.5: what the chapter's words say, of many texts.
func TestParseIsByTheWords(t *testing.T) {
	bases := someBases(t)
	answered := map[api.Errno]int{}
	check := func(s string, base api.URL, has bool) {
		want, wantErr := parseByWords(s, base, has)
		got, err := urls.Parse(s, base, has)
		if got != want || err != wantErr {
			t.Errorf("Parse(%q), seen from %+v, %v: %+v, %d, not %+v, %d", s, base, has, got, err, want, wantErr)
		}
		answered[err]++
		if err != api.OK {
			return
		}
		if !urls.Check(got) || urls.Text(got) != textByWords(got) {
			t.Errorf("Parse(%q): %+v may not be", s, got)
		}
		wantURL(t, urls.Text(got), got)
		alone := got
		alone.Mark, alone.HasMark = "", false
		if again, err := urls.Parse("", got, true); again != alone || err != api.OK {
			t.Errorf("seen from %+v: %+v, %d", got, again, err)
		}
	}
	for i, s := range nearlyURLs() {
		check(s, api.URL{}, false)
		check(s, bases[i%len(bases)], true)
	}
	for _, err := range []api.Errno{api.OK, api.ErrForm, api.ErrHost, api.ErrScheme} {
		if answered[err] < 500 {
			t.Errorf("only %d texts answered %d", answered[err], err)
		}
	}
}

// noAddresses: no text says them.
func noAddresses() []api.URL {
	return []api.URL{
		{}, {Scheme: "http"}, {Scheme: "http", Host: "h", Port: -1}, {Host: "h", Port: -1, Path: "/"}, {Scheme: "http", Port: -1, Path: "/"}, {Port: -1},
		changed(func(u *api.URL) { u.Scheme = "HTTP" }), changed(func(u *api.URL) { u.Scheme = "ftp" }), changed(func(u *api.URL) { u.Scheme = " http" }), changed(func(u *api.URL) { u.Scheme = "http:" }), changed(func(u *api.URL) { u.Scheme = "http://x" }), changed(func(u *api.URL) { u.Scheme = "h\ttp" }), changed(func(u *api.URL) { u.Scheme = "" }),
		changed(func(u *api.URL) { u.Host = "H" }), changed(func(u *api.URL) { u.Host = "" }), changed(func(u *api.URL) { u.Host = "h." }), changed(func(u *api.URL) { u.Host = "h:8" }), changed(func(u *api.URL) { u.Host = "u@h" }), changed(func(u *api.URL) { u.Host = "h/a" }), changed(func(u *api.URL) { u.Host = "1.2" }), changed(func(u *api.URL) { u.Host = "[::0]" }), changed(func(u *api.URL) { u.Host = "é" }), changed(func(u *api.URL) { u.Host = "a b" }), changed(func(u *api.URL) { u.Host = "/h" }), changed(func(u *api.URL) { u.Host = "\xff" }), changed(func(u *api.URL) { u.Host = "%68" }),
		changed(func(u *api.URL) { u.Port = -2 }), changed(func(u *api.URL) { u.Port = -1 << 63 }), changed(func(u *api.URL) { u.Port = 80 }), changed(func(u *api.URL) { u.Port = 65536 }), changed(func(u *api.URL) { u.Port = 1<<63 - 1 }), changed(func(u *api.URL) { u.Scheme, u.Port = "https", 443 }), changed(func(u *api.URL) { u.Port = 65536 + 8 }),
		changed(func(u *api.URL) { u.User = "a b" }), changed(func(u *api.URL) { u.User = "a:b" }), changed(func(u *api.URL) { u.User = "a@b" }), changed(func(u *api.URL) { u.User = "a/b" }), changed(func(u *api.URL) { u.Pass = "a:b" }), changed(func(u *api.URL) { u.Pass = "é" }), changed(func(u *api.URL) { u.Pass = "a@" }), changed(func(u *api.URL) { u.User = "\n" }),
		changed(func(u *api.URL) { u.Path = "" }), changed(func(u *api.URL) { u.Path = "a" }), changed(func(u *api.URL) { u.Path = "/." }), changed(func(u *api.URL) { u.Path = "/a/../b" }), changed(func(u *api.URL) { u.Path = "/%2e" }), changed(func(u *api.URL) { u.Path = "/a b" }), changed(func(u *api.URL) { u.Path = "/a?b" }), changed(func(u *api.URL) { u.Path = "/a#b" }), changed(func(u *api.URL) { u.Path = "\\a" }), changed(func(u *api.URL) { u.Path = "/a\\b" }), changed(func(u *api.URL) { u.Path = "/ " }), changed(func(u *api.URL) { u.Path = "/a\n" }), changed(func(u *api.URL) { u.Path = ":8/" }), changed(func(u *api.URL) { u.Path = "/\xff" }),
		changed(func(u *api.URL) { u.Query = "q" }), changed(func(u *api.URL) { u.Mark = "m" }), changed(func(u *api.URL) { u.Query, u.HasQuery = "a b", true }), changed(func(u *api.URL) { u.Query, u.HasQuery = "a#b", true }), changed(func(u *api.URL) { u.Query, u.HasQuery = "'", true }), changed(func(u *api.URL) { u.Mark, u.HasMark = "`", true }), changed(func(u *api.URL) { u.Mark, u.HasMark = "a\tb", true }), changed(func(u *api.URL) { u.Mark, u.HasMark = "a ", true }), changed(func(u *api.URL) { u.Mark, u.HasMark = "\x80", true }),
		changed(func(u *api.URL) { u.Path = "/" + strings.Repeat("a", api.MaxURL) }), changed(func(u *api.URL) { u.Mark, u.HasMark = strings.Repeat("a", 1<<20), true }),
		{Scheme: "\xff", User: "\xff", Pass: "\xff", Host: "\xff", Port: 1, Path: "\xff", Query: "\xff", HasQuery: true, Mark: "\xff", HasMark: true},
	}
}

// P6.2: each part of a text, of addresses that may be, and of such that may not.
func TestText(t *testing.T) {
	for want, u := range map[string]api.URL{
		"http://h/":               bare(),
		"https://u:p@h:8/a?q#m":   {Scheme: "https", User: "u", Pass: "p", Host: "h", Port: 8, Path: "/a", Query: "q", HasQuery: true, Mark: "m", HasMark: true},
		"http://u@h/":             changed(func(u *api.URL) { u.User = "u" }),
		"http://:p@h/":            changed(func(u *api.URL) { u.Pass = "p" }),
		"http://u:p@h/":           changed(func(u *api.URL) { u.User, u.Pass = "u", "p" }),
		"http://h:0/":             changed(func(u *api.URL) { u.Port = 0 }),
		"http://h:80/":            changed(func(u *api.URL) { u.Port = 80 }),
		"http://h:65536/":         changed(func(u *api.URL) { u.Port = 65536 }),
		"http://h:1099511627776/": changed(func(u *api.URL) { u.Port = 1 << 40 }),
		"http://h/?":              changed(func(u *api.URL) { u.HasQuery = true }),
		"http://h/#":              changed(func(u *api.URL) { u.HasMark = true }),
		"http://h/?q":             changed(func(u *api.URL) { u.Query, u.HasQuery = "q", true }),
		"http://h/#m":             changed(func(u *api.URL) { u.Mark, u.HasMark = "m", true }),
		"http://[::1]/":           changed(func(u *api.URL) { u.Host = "[::1]" }),
		"http://h":                changed(func(u *api.URL) { u.Path = "" }),
		"http://ha":               changed(func(u *api.URL) { u.Path = "a" }),
		"://:0":                   {},
		"://":                     {Port: -1},
		"x://@ b:7c d?#?":         {Scheme: "x", Host: "@ b", Port: 7, Path: "c d", HasQuery: true, Mark: "?", HasMark: true},
		"http://a:b:c@d@h/":       changed(func(u *api.URL) { u.User, u.Pass = "a:b", "c@d" }),
		"\xff://h/\xfe":           changed(func(u *api.URL) { u.Scheme, u.Path = "\xff", "/\xfe" }),
	} {
		if got := urls.Text(u); got != want {
			t.Errorf("Text(%+v): %q, not %q", u, got, want)
		}
	}
	for _, port := range []int{-1, -2, -80, -1 << 63} {
		if got := urls.Text(changed(func(u *api.URL) { u.Port, u.Query, u.Mark = port, "q", "m" })); got != "http://h/" {
			t.Errorf("Text with port %d: %q", port, got)
		}
	}
	for _, u := range noAddresses() {
		if got, want := urls.Text(u), textByWords(u); got != want {
			t.Errorf("Text(%s): %.200q, not %.200q", shown(u), got, want)
		}
	}
}

// P6.3
func TestCheck(t *testing.T) {
	for _, s := range []string{
		"http://h/", "https://h/", "http://u@h/", "http://:p@h/", "http://u:p@h:8/a//b/?q#m", "https://h:80/", "http://h:443/", "http://h:0/", "http://h:65535/", "http://[::1]/", "http://1.2.3.4/", "http://xn--9ca/", "http://h//", "http://h/?", "http://h/#", "http://h/?#", "http://h/%20?%27#%60", "http://h/a:@b", "http://h/...", "http://a\"b/", "http://h/?\\#\\", "http://h/" + strings.Repeat("a", api.MaxURL-9),
	} {
		if u := parsed(t, s); !urls.Check(u) || urls.Text(u) != s {
			t.Errorf("Check(%.60q): false", s)
		}
	}
	for _, u := range noAddresses() {
		if urls.Check(u) {
			t.Errorf("Check(%s): true", shown(u))
		}
		if checkByWords(u) {
			t.Errorf("by the words, %s may be", shown(u))
		}
	}
}

// P6.4: Port and Key, of addresses that may be, and of such that may not.
func TestPortAndKey(t *testing.T) {
	for _, c := range []struct {
		scheme string
		port   int
		want   int
	}{
		{"http", -1, 80}, {"https", -1, 443}, {"http", -5, 80}, {"https", -1 << 63, 443}, {"http", 0, 0}, {"https", 0, 0}, {"http", 80, 80}, {"http", 443, 443}, {"https", 80, 80}, {"http", 8080, 8080}, {"https", 65536, 65536}, {"http", 1<<63 - 1, 1<<63 - 1},
		{"", -1, 0}, {"", 7, 7}, {"ftp", -1, 0}, {"ftp", 21, 21}, {"HTTP", -1, 0}, {"HTTPS", -1, 0}, {"https ", -1, 0}, {"ws", -2, 0}, {"", 0, 0}, {"\xff", -1, 0},
	} {
		for _, host := range []string{"h", "", "[::1]", "H\xff"} {
			u := api.URL{Scheme: c.scheme, User: "u", Pass: "p", Host: host, Port: c.port, Path: "/a", Mark: "m", HasMark: true}
			if got := urls.Port(u); got != c.want {
				t.Errorf("Port(%+v): %d, not %d", u, got, c.want)
			}
			if got, want := urls.Key(u), (api.Key{Sealed: c.scheme == "https", Host: host, Port: c.want}); got != want {
				t.Errorf("Key(%+v): %+v, not %+v", u, got, want)
			}
		}
	}
	if urls.Port(parsed(t, "https://h/")) != 443 || urls.Port(parsed(t, "http://h:8080/")) != 8080 || urls.Key(parsed(t, "https://h/")) != (api.Key{Sealed: true, Host: "h", Port: 443}) {
		t.Error("the chapter's examples")
	}
	if urls.Key(parsed(t, "http://u@H:0443/a")) != (api.Key{Host: "h", Port: 443}) || urls.Key(api.URL{}) != (api.Key{}) {
		t.Error("keys")
	}
}

// P6.4
func TestTarget(t *testing.T) {
	for s, want := range map[string]string{
		"http://h/a?b#c": "/a?b", "http://h": "/", "http://h?": "/?", "http://h/#c": "/", "http://h/#?c": "/", "https://u:p@h:8/a/../b/": "/b/", "http://h/?b?#": "/?b?", "http://h//": "//", "http://h/a b?'": "/a%20b?%27",
	} {
		if got := urls.Target(parsed(t, s)); got != want {
			t.Errorf("Target(%q): %q, not %q", s, got, want)
		}
	}
	for want, u := range map[string]api.URL{
		"": {}, "?": {HasQuery: true}, "?q": {Query: "q", HasQuery: true}, "a b": {Path: "a b", Query: "q", Mark: "m", HasMark: true}, "\xff?\xfe": {Scheme: "x", Path: "\xff", Query: "\xfe", HasQuery: true},
	} {
		if got := urls.Target(u); got != want {
			t.Errorf("Target(%+v): %q, not %q", u, got, want)
		}
	}
}

// P6.5: seen from an address, an empty text is that address, without its mark; its own text is itself.
func TestAnEmptyTextIsTheAddressItself(t *testing.T) {
	for _, base := range append(someBases(t), parsed(t, "http://h/#"), parsed(t, "http://h/a?#m"), parsed(t, "http://u@h:8/%2f#m"), parsed(t, "http://h/"+strings.Repeat("a", api.MaxURL-9))) {
		want := base
		want.Mark, want.HasMark = "", false
		for _, s := range []string{"", " ", "\n\t", base.Scheme + ":"} {
			if got, err := urls.Parse(s, base, true); got != want || err != api.OK {
				t.Errorf("Parse(%q), seen from %s: %s, %d", s, shown(base), shown(got), err)
			}
		}
		wantURL(t, urls.Text(base), base)
		for _, other := range someBases(t) {
			if got, err := urls.Parse(urls.Text(base), other, true); got != base || err != api.OK {
				t.Errorf("seen from %s: %s, %d, not %s", shown(other), shown(got), err, shown(base))
			}
		}
	}
}

// R1: any fields end, too.
func TestLongAddresses(t *testing.T) {
	long := strings.Repeat("../", 1<<20)
	u := api.URL{Scheme: long, User: long, Pass: long, Host: long, Port: 1 << 62, Path: long, Query: long, HasQuery: true, Mark: long, HasMark: true}
	if urls.Check(u) || urls.Text(u) != textByWords(u) || urls.Target(u) != long+"?"+long || urls.Port(u) != 1<<62 || urls.Key(u) != (api.Key{Host: long, Port: 1 << 62}) {
		t.Error("a long address")
	}
	wantSeenRefused(t, "x", u, api.ErrArg)
	wantSeenRefused(t, long, u, api.ErrLimit)
}
