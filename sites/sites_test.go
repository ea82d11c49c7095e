package sites_test

import (
	"math/rand"
	"regexp"
	"slices"
	"strconv"
	"strings"
	"testing"

	"footman/api"
	"footman/hosts"
	"footman/sites"
	"footman/suffix"
	"footman/urls"
)

func wantDomain(t *testing.T, host, domain string, want bool) {
	t.Helper()
	if got := sites.Domain(host, domain); got != want {
		t.Errorf("Domain(%.60q, %.60q): %v", host, domain, got)
	}
}

func wantPath(t *testing.T, path, cookie string, want bool) {
	t.Helper()
	if got := sites.Path(path, cookie); got != want {
		t.Errorf("Path(%.60q, %.60q): %v", path, cookie, got)
	}
}

func wantUsual(t *testing.T, path, want string) {
	t.Helper()
	if got := sites.Usual(path); got != want {
		t.Errorf("Usual(%.60q): %.60q, not %.60q", path, got, want)
	}
}

// wantSame asks both ways about (P9.5).
func wantSame(t *testing.T, rules []string, a, b api.URL, want bool) {
	t.Helper()
	if got := sites.Same(rules, a, b); got != want {
		t.Errorf("Same(%.60q, %.80q, %.80q): %v", rules, urls.Text(a), urls.Text(b), got)
	}
	if got := sites.Same(rules, b, a); got != want {
		t.Errorf("Same(%.60q, %.80q, %.80q): %v, the other way about", rules, urls.Text(b), urls.Text(a), got)
	}
}

// wantSite: whether two texts' addresses belong to one site; both may be.
func wantSite(t *testing.T, rules, a, b string, want bool) {
	t.Helper()
	wantSame(t, strings.Fields(rules), of(t, a), of(t, b), want)
}

func wantOrigin(t *testing.T, u api.URL, want string) {
	t.Helper()
	if got := sites.Origin(u); got != want {
		t.Errorf("Origin(%.80q): %.80q, not %.80q", urls.Text(u), got, want)
	}
}

// of: an address that may be.
func of(t *testing.T, text string) api.URL {
	t.Helper()
	u, err := urls.Parse(text, api.URL{}, false)
	if err != api.OK {
		t.Fatalf("%q is no address: %d", text, err)
	}
	return u
}

func oneByte(c byte) string { return string([]byte{c}) }

// wrong are addresses that may not be, each near one that may.
func wrong() []api.URL {
	return []api.URL{
		{},
		{Port: -1},
		{Scheme: "http", Port: -1},
		{Scheme: "http", Port: -1, Path: "/"},
		{Scheme: "http", Host: "x.com", Port: -1},
		{Scheme: "http", Host: "x.com", Port: 80, Path: "/"},
		{Scheme: "https", Host: "x.com", Port: 443, Path: "/"},
		{Scheme: "http", Host: "x.com", Port: 65536, Path: "/"},
		{Scheme: "http", Host: "x.com", Port: -2, Path: "/"},
		{Scheme: "ftp", Host: "x.com", Port: -1, Path: "/"},
		{Scheme: "HTTP", Host: "x.com", Port: -1, Path: "/"},
		{Scheme: "http", Host: "X.com", Port: -1, Path: "/"},
		{Scheme: "http", Host: "x.com.", Port: -1, Path: "/"},
		{Scheme: "http", Host: "x..com", Port: -1, Path: "/"},
		{Scheme: "http", Host: "a@x.com", Port: -1, Path: "/"},
		{Scheme: "http", Host: "x.com:8", Port: -1, Path: "/"},
		{Scheme: "http", Host: "0x7f.1", Port: -1, Path: "/"},
		{Scheme: "http", Host: "1.2.3.256", Port: -1, Path: "/"},
		{Scheme: "http", Host: "[::0:1]", Port: -1, Path: "/"},
		{Scheme: "http", Host: "\xff", Port: -1, Path: "/"},
		{Scheme: "http", Host: "x.com", Port: -1, Path: "x"},
		{Scheme: "http", Host: "x.com", Port: -1, Path: "/a b"},
		{Scheme: "http", Host: "x.com", Port: -1, Path: "/a/../b"},
		{Scheme: "http", Host: "x.com", Port: -1, Path: "/\xff"},
		{Scheme: "http", Host: "x.com", Port: -1, Path: "/", Query: "q"},
		{Scheme: "http", Host: "x.com", Port: -1, Path: "/", Mark: "m"},
		{Scheme: "http", Host: "x.com", Port: -1, Path: "/", User: "a b"},
		{Scheme: "http", Host: "x.com", Port: -1, Path: "/" + strings.Repeat("a", api.MaxURL)},
	}
}

var usualForm = regexp.MustCompile(`(?s)^(/.*)/[^/]*$`)

// usualByForm does what the chapter's words say, by a pattern.
func usualByForm(path string) string {
	if found := usualForm.FindStringSubmatch(path); found != nil {
		return found[1]
	}
	return "/"
}

// pathByForm does what the chapter's words say, the cookie's path being a pattern of those that match it.
func pathByForm(path, cookie string) bool {
	text := regexp.QuoteMeta(cookie)
	if strings.HasSuffix(cookie, "/") {
		return regexp.MustCompile(`(?s)^` + text).MatchString(path)
	}
	return regexp.MustCompile(`(?s)^` + text + `(?:/.*)?$`).MatchString(path)
}

// sameByWords does what the chapter's words say, one by one.
func sameByWords(rules []string, a, b api.URL) bool {
	if !suffix.Check(rules) || !urls.Check(a) || !urls.Check(b) || a.Scheme != b.Scheme {
		return false
	}
	if a.Host == b.Host {
		return true
	}
	first, firstErr := suffix.Own(rules, a.Host)
	second, secondErr := suffix.Own(rules, b.Host)
	return firstErr == api.OK && secondErr == api.OK && first != "" && first == second
}

func somePath(r *rand.Rand, signs string) string {
	path := make([]byte, r.Intn(7))
	for i := range path {
		path[i] = signs[r.Intn(len(signs))]
	}
	return string(path)
}

// someName is of few parts, so that hosts and rules often end alike.
func someName(r *rand.Rand) string {
	name := oneByte("ab"[r.Intn(2)])
	for range r.Intn(4) {
		name = oneByte("ab"[r.Intn(2)]) + "." + name
	}
	return name
}

func someRules(r *rand.Rand) []string {
	var rules []string
	for range r.Intn(5) {
		rules = append(rules, []string{"", "", "*."}[r.Intn(3)]+someName(r))
	}
	if r.Intn(4) == 0 {
		rules = append(rules, "!a."+someName(r))
	}
	return rules
}

func someURL(t *testing.T, r *rand.Rand) api.URL {
	t.Helper()
	host := someName(r)
	switch r.Intn(8) {
	case 0:
		host = []string{"1.2.3.4", "2.2.3.4", "[::1]", "[::2]"}[r.Intn(4)]
	case 1:
		return wrong()[r.Intn(len(wrong()))]
	}
	text := []string{"http://", "https://"}[r.Intn(8)/7] + []string{"", "u@", "u:p@"}[r.Intn(3)] + host
	return of(t, text+[]string{"", ":0", ":8"}[r.Intn(3)]+[]string{"", "/p", "/p?q", "/#m"}[r.Intn(4)])
}

// P9.1
func TestDomain(t *testing.T) {
	for _, c := range []struct {
		host, domain string
		want         bool
	}{
		// the chapter's examples
		{"a.b.c", "b.c", true}, {"b.c", "b.c", true}, {"1.2.3.4", "3.4", false}, {"a", "", false},
		// below it, and what only ends with it
		{"a.b.c", "c", true}, {"a.b.c", "a.b.c", true}, {"ab.c", "b.c", false}, {"b.c", "a.b.c", false}, {"a.b.c", "a.b", false}, {"b.c", "x.c", false},
		{"xn--bcher-kva.de", "de", true}, {"xn--bcher-kva.de", "kva.de", false},
		// an empty one, though a host may end with a point
		{"", "", false}, {"a.", "", false}, {".", "", false}, {"", "a", false}, {"1.2.3.4", "", false},
		// machines
		{"1.2.3.4", "1.2.3.4", true}, {"1.2.3.4", "4", false}, {"1.2.3.4", "2.3.4", false}, {"[::1]", "[::1]", true}, {"[::1]", "1]", false}, {"[::1]", "[::2]", false},
		{"a.1.2.3.4", "1.2.3.4", false}, {"a.[::1]", "[::1]", false}, {"1.2.3.com", "3.com", true},
		// texts that are no hosts
		{"A.b", "a.b", false}, {"a.B", "B", true}, {"a", ".a", false}, {"b.a", ".a", false}, {"\xff.\xc3", "\xc3", true}, {"a\xff", "\xff", false}, {"é", "é", true}, {"a.b", " b", false},
	} {
		wantDomain(t, c.host, c.domain, c.want)
	}
	long := strings.Repeat("a.", 1<<18)
	wantDomain(t, long+"b", "b", true)
	wantDomain(t, long+"b", "c", false)
	wantDomain(t, "b", long+"b", false)
}

// P9.1: of an empty domain nothing is below, else hosts.Below says it.
func TestDomainIsBelow(t *testing.T) {
	r := rand.New(rand.NewSource(1))
	for range 20000 {
		host, domain := somePath(r, "ab.1[]"), somePath(r, "ab.1[]")
		if r.Intn(2) == 0 {
			host, domain = someName(r), someName(r)
		}
		wantDomain(t, host, domain, domain != "" && hosts.Below(host, domain))
	}
}

// P9.2
func TestPath(t *testing.T) {
	for _, c := range []struct {
		path, cookie string
		want         bool
	}{
		// the chapter's examples
		{"/a/b", "/a", true}, {"/ab", "/a", false}, {"/a", "/a/", false}, {"/a/", "/a/", true}, {"/", "/", true}, {"/a", "", true},
		// the same one
		{"/a", "/a", true}, {"/a/b", "/a/b", true}, {"", "", true}, {"a", "a", true}, {"//", "//", true},
		// one that begins with it: a slash stands behind it, or does not
		{"/a/", "/a", true}, {"/a//", "/a", true}, {"/a/b/c", "/a/b", true}, {"/a?", "/a", false}, {"/a.", "/a", false}, {"/a%2f", "/a", false}, {"/a\\b", "/a", false}, {"/a\x00", "/a", false}, {"/a\xff", "/a", false}, {"/aa/", "/a", false},
		// one that ends with a slash
		{"/a", "/", true}, {"/a/b", "/", true}, {"/a/b", "/a/", true}, {"/a//", "/a/", true}, {"/a/bc", "/a/b/", false}, {"//", "/", true}, {"//a", "/", true}, {"//a", "//", true}, {"/\xff", "/", true},
		// one that does not begin with it
		{"/b/a", "/a", false}, {"/A", "/a", false}, {"/A/b", "/a", false}, {"/", "/a", false}, {"/", "//", false}, {"", "/", false}, {"", "a", false}, {"/a", "a", false}, {"a", "/a", false}, {"a/b", "/", false},
		// an empty one, and those that do not begin with a slash
		{"/", "", true}, {"//", "", true}, {"a", "", false}, {"a/", "", false}, {"a/b", "a", true}, {"ab", "a", false}, {"a/b", "a/", true}, {"\xff/", "\xff", true}, {"\xff", "", false}, {"é", "\xc3", false},
	} {
		wantPath(t, c.path, c.cookie, c.want)
	}
	long := strings.Repeat("/a", 1<<20)
	wantPath(t, long, long, true)
	wantPath(t, long+"/", long, true)
	wantPath(t, long+"a", long, false)
	wantPath(t, long, long+"/", false)
}

// P9.2: each byte behind a cookie's path, and as its end.
func TestPathOfEveryByte(t *testing.T) {
	for i := range 256 {
		c := oneByte(byte(i))
		wantPath(t, "/a"+c, "/a", c == "/")
		wantPath(t, "/a"+c+"b", "/a", c == "/")
		wantPath(t, "/a"+c+"b", "/a"+c, c == "/")
		wantPath(t, "/a"+c, "/a"+c, true)
		wantPath(t, c, "", c == "/")
	}
}

// P9.2
func TestUsual(t *testing.T) {
	for path, want := range map[string]string{
		// the chapter's examples
		"/a/b": "/a", "/a": "/", "/a/": "/a", "": "/", "a/b": "/",
		// none, without a slash ahead, alone
		"a": "/", "a/": "/", "a/b/c": "/", " /a/b": "/", "\\a/b": "/", "\xff": "/", "\xff/a/b": "/", "/": "/", "/\xff": "/",
		// more behind it
		"/a/b/c": "/a/b", "/a/b/": "/a/b", "/a\\b": "/", "/a/\xff": "/a", "/\xff/a": "/\xff", "/%2f": "/", "/é/": "/é",
		// two together
		"//": "/", "///": "//", "//a": "/", "/a//": "/a/", "/a//b": "/a/", "//a/b": "//a",
	} {
		wantUsual(t, path, want)
	}
	long := strings.Repeat("/a", 1<<20)
	wantUsual(t, long+"/b", long)
}

// P9.2: of paths of few bytes, against the patterns.
func TestPathsAreOfForm(t *testing.T) {
	r := rand.New(rand.NewSource(2))
	matches := 0
	for range 20000 {
		path, cookie := somePath(r, "//ab\n"), somePath(r, "//ab\n")
		if r.Intn(2) == 0 {
			cookie = path[:r.Intn(len(path)+1)]
		}
		want := pathByForm(path, cookie)
		if want {
			matches++
		}
		wantPath(t, path, cookie, want)
		wantUsual(t, path, usualByForm(path))
	}
	if matches < 1000 {
		t.Errorf("only %d of the paths match", matches)
	}
}

// P9.3: the chapter's examples.
func TestSameOfExamples(t *testing.T) {
	wantSite(t, "com", "https://a.x.com/", "https://x.com:8/", true)
	wantSite(t, "com", "http://x.com/", "https://x.com/", false)
	wantSite(t, "com", "http://x.com/", "http://y.com/", false)
	wantSite(t, "", "http://1.2.3.4/", "http://1.2.3.4:8/", true)
}

// P9.3
func TestSame(t *testing.T) {
	for _, c := range []struct {
		rules, a, b string
		want        bool
	}{
		// the same host: with an own name, without one, a machine
		{"com", "http://x.com/", "http://x.com/", true}, {"com", "http://com/", "http://com/p", true}, {"co.uk", "http://co.uk/", "http://co.uk/", true}, {"", "http://a/", "http://a/", true},
		{"com", "http://1.2.3.4/", "http://1.2.3.4/", true}, {"com", "http://[::1]/", "http://[::1]:8/", true}, {"", "http://[::0:1]/", "http://[::1]/", true}, {"", "http://0x7f.1/", "http://127.0.0.1/", true},
		// machines that differ, whatever they end with, and one against a name
		{"", "http://1.2.3.4/", "http://2.2.3.4/", false}, {"4", "http://1.2.3.4/", "http://2.2.3.4/", false}, {"3.4", "http://1.2.3.4/", "http://1.1.3.4/", false}, {"", "http://[::1]/", "http://[::2]/", false}, {"", "http://[::1]/", "http://0.0.0.1/", false},
		{"", "http://1.2.3.4/", "http://a/", false}, {"", "http://1.2.3.4/", "http://a.b/", false}, {"", "http://[::1]/", "http://a.b/", false}, {"com", "http://1.2.3.4/", "http://com/", false},
		// one own name, and two
		{"com", "http://a.x.com/", "http://x.com/", true}, {"com", "http://a.x.com/", "http://b.x.com/", true}, {"com", "http://c.a.x.com/", "http://b.x.com/", true},
		{"com", "http://x.com/", "http://y.com/", false}, {"com", "http://a.x.com/", "http://a.y.com/", false}, {"com", "http://ax.com/", "http://x.com/", false}, {"com", "http://x.com/", "http://x.org/", false},
		// one with an own name, one without; two without
		{"com", "http://com/", "http://x.com/", false}, {"com", "http://com/", "http://org/", false}, {"co.uk uk", "http://co.uk/", "http://uk/", false}, {"co.uk uk", "http://co.uk/", "http://x.co.uk/", false}, {"", "http://a/", "http://b/", false},
		// the own name as the rules make it longer, or shorter
		{"", "http://a.x.uk/", "http://b.x.uk/", true}, {"uk", "http://a.x.uk/", "http://b.x.uk/", true}, {"x.uk", "http://a.x.uk/", "http://b.x.uk/", false}, {"x.uk", "http://c.a.x.uk/", "http://a.x.uk/", true}, {"*.uk", "http://a.x.uk/", "http://b.x.uk/", false},
		{"*.uk !x.uk", "http://a.x.uk/", "http://b.x.uk/", true}, {"*.uk !x.uk", "http://a.y.uk/", "http://b.y.uk/", false}, {"*.uk !x.uk", "http://a.x.uk/", "http://x.uk/", true}, {"*.uk", "http://a.x.uk/", "http://x.uk/", false}, {"a.x.uk b.x.uk", "http://a.x.uk/", "http://b.x.uk/", false},
		{"b.a", "http://b.a/", "http://c.a/", false}, {"b.a", "http://c.a/", "http://d.c.a/", true},
		// schemes that differ
		{"com", "http://x.com/", "https://x.com/", false}, {"com", "https://a.x.com/", "http://x.com/", false}, {"", "http://1.2.3.4/", "https://1.2.3.4/", false}, {"", "http://h:8/", "https://h:8/", false},
		// what else differs
		{"com", "http://a.x.com:8/", "http://b.x.com:9/", true}, {"com", "http://x.com:0/", "http://x.com/", true}, {"com", "http://u:p@x.com/", "http://v@a.x.com/", true}, {"com", "http://x.com/a/b", "http://a.x.com/c", true}, {"com", "http://x.com/?a", "http://a.x.com/?b", true}, {"com", "http://x.com/#a", "http://a.x.com/#b", true}, {"", "http://1.2.3.4/a?b#c", "http://u@1.2.3.4:8/", true}, {"com", "http://u:p@com:8/a?b#c", "http://com/", true},
		{"com", "http://u@x.com/p?q#m", "http://u@y.com/p?q#m", false}, {"com", "http://x.com/y.com", "http://y.com/", false},
		// as the standards write it
		{"com", "HTTP://A.X.com/", "http://x.COM./", true}, {"de", "http://a.bücher.de/", "http://xn--bcher-kva.de/", true},
	} {
		wantSite(t, c.rules, c.a, c.b, c.want)
	}
}

// P9.3
func TestSameOfRulesThatMayNotBe(t *testing.T) {
	u, machine := of(t, "http://x.com/"), of(t, "http://1.2.3.4/")
	for _, text := range []string{"", "A", "a..b", "!com", "*", "*.*.a", "com.", ".com", "é", "\xff"} {
		for _, rules := range [][]string{{text}, {"com", text}, {text, "com"}} {
			wantSame(t, rules, u, u, false)
			wantSame(t, rules, u, of(t, "http://a.x.com/"), false)
			wantSame(t, rules, machine, machine, false)
		}
	}
	most := slices.Repeat([]string{"com"}, api.MaxRules)
	wantSame(t, most, u, of(t, "http://a.x.com/"), true)
	wantSame(t, append(most, "com"), u, u, false)
	wantSame(t, append(most, "com"), machine, machine, false)
}

// P9.3: as the first one, as the second one, as both, even if it is the same.
func TestSameOfAddressesThatMayNotBe(t *testing.T) {
	good := of(t, "http://x.com/")
	for _, u := range wrong() {
		wantSame(t, []string{"com"}, u, good, false)
		wantSame(t, nil, u, u, false)
		sealed := u
		sealed.Scheme = "https"
		if !urls.Check(sealed) {
			wantSame(t, nil, sealed, of(t, "https://x.com/"), false)
		}
	}
}

// P9.3: against the chapter's words.
func TestSameIsByWords(t *testing.T) {
	r := rand.New(rand.NewSource(3))
	belong := 0
	for range 20000 {
		rules, a, b := someRules(r), someURL(t, r), someURL(t, r)
		want := sameByWords(rules, a, b)
		if want && a.Host != b.Host {
			belong++
		}
		wantSame(t, rules, a, b, want)
	}
	if belong < 300 {
		t.Errorf("only %d of the addresses belong together by their own names", belong)
	}
}

// P9.4
func TestOrigin(t *testing.T) {
	for text, want := range map[string]string{
		// the chapter's examples
		"https://u@h:8/p?q": "https://h:8", "http://h/": "http://h",
		// ports: 0, the greatest, none, the scheme's own, the other scheme's own
		"http://h:0/": "http://h:0", "https://h:65535/": "https://h:65535", "http://h:8080/": "http://h:8080", "https://h/": "https://h", "http://h:80/": "http://h", "https://h:443/": "https://h", "http://h:443/": "http://h:443", "https://h:80/": "https://h:80", "http://h:/": "http://h", "http://h:008/": "http://h:8",
		// a user, a path, a query, a mark
		"http://u:p@h/": "http://h", "http://:p@h/": "http://h", "http://h/a/b": "http://h", "http://h?q": "http://h", "http://h/?": "http://h", "http://h/#": "http://h", "http://h/#m": "http://h", "https://u:p@h:8/a/b?c#d": "https://h:8",
		// every kind of host
		"HTTP://ExAmple.COM./": "http://example.com", "https://bücher.de/": "https://xn--bcher-kva.de", "http://a_b.c/": "http://a_b.c", "http://0x7f.1/": "http://127.0.0.1", "http://1.2.3.4:8/": "http://1.2.3.4:8", "https://[::0:1]/": "https://[::1]", "https://[2001:DB8::1]:8/": "https://[2001:db8::1]:8", "http://null/": "http://null",
	} {
		wantOrigin(t, of(t, text), want)
	}
}

// P9.4
func TestOriginOfAddressesThatMayNotBe(t *testing.T) {
	wantOrigin(t, api.URL{}, "null")
	for _, u := range wrong() {
		wantOrigin(t, u, "null")
	}
}

// P9.4: what is told is an address of the same place, without anything else.
func TestOriginIsAnAddress(t *testing.T) {
	r := rand.New(rand.NewSource(4))
	for range 5000 {
		u := someURL(t, r)
		if !urls.Check(u) {
			wantOrigin(t, u, "null")
			continue
		}
		wantOrigin(t, u, urls.Text(api.URL{Scheme: u.Scheme, Host: u.Host, Port: u.Port}))
		again := of(t, sites.Origin(u))
		if again != (api.URL{Scheme: u.Scheme, Host: u.Host, Port: u.Port, Path: "/"}) || urls.Key(again) != urls.Key(u) {
			t.Errorf("Origin of %q reads as %+v", urls.Text(u), again)
		}
		wantSame(t, nil, u, again, true)
		for port := range 3 {
			u.Port = port
			wantOrigin(t, u, u.Scheme+"://"+u.Host+":"+strconv.Itoa(port))
		}
	}
}

// P9.5: a path that begins with a slash matches its usual one.
func TestPathsMatchTheirUsualOnes(t *testing.T) {
	r := rand.New(rand.NewSource(5))
	for range 20000 {
		path := "/" + somePath(r, "//ab")
		wantPath(t, path, sites.Usual(path), true)
	}
	for _, path := range []string{"/", "//", "/a", "/a/", "/a/b", "/\xff", "/a//", "//a"} {
		wantPath(t, path, sites.Usual(path), true)
	}
}

// P9.5: what matches a path that matches another one matches that.
func TestPathsMatchOnward(t *testing.T) {
	r := rand.New(rand.NewSource(6))
	found := 0
	for range 200000 {
		path := "/" + somePath(r, "//ab")
		middle := path[:1+r.Intn(len(path))]
		last := middle[:1+r.Intn(len(middle))]
		if sites.Path(path, middle) && sites.Path(middle, last) {
			found++
			wantPath(t, path, last, true)
		}
	}
	if found < 1000 {
		t.Errorf("only %d threes of paths", found)
	}
	wantPath(t, "/a/b/c", "/a/b", true)
	wantPath(t, "/a/b", "/a", true)
	wantPath(t, "/a/b/c", "/a", true)
}

// P9.5: of three addresses of which two pairs belong together, all do.
func TestSitesAreOfAllThree(t *testing.T) {
	r := rand.New(rand.NewSource(7))
	found := 0
	for range 50000 {
		rules, a, b, c := someRules(r), someURL(t, r), someURL(t, r), someURL(t, r)
		if sites.Same(rules, a, b) && sites.Same(rules, b, c) {
			found++
			wantSame(t, rules, a, c, true)
		}
		wantSame(t, rules, a, a, urls.Check(a))
	}
	if found < 300 {
		t.Errorf("only %d threes of addresses", found)
	}
	wantSite(t, "com", "http://x.com/", "http://a.x.com/", true)
	wantSite(t, "com", "http://a.x.com/", "http://b.x.com/", true)
	wantSite(t, "com", "http://x.com/", "http://b.x.com/", true)
}

// R4: the rules are not changed, their spare room neither.
func TestRulesStayAsTheyWere(t *testing.T) {
	room := []string{"com", "*.ck", "!www.ck", "spare", "A"}
	kept := slices.Clone(room)
	for _, host := range []string{"x.com", "a.www.ck", "1.2.3.4", "com"} {
		wantSame(t, room[:3], of(t, "http://"+host), of(t, "http://"+host+"/p"), true)
	}
	wantSame(t, room, of(t, "http://x.com"), of(t, "http://x.com"), false)
	if !slices.Equal(room, kept) {
		t.Errorf("the rules are now %q", room)
	}
}

// R4: no rules are as an empty list of them.
func TestNoRules(t *testing.T) {
	for _, rules := range [][]string{nil, {}, make([]string, 0, 3)} {
		wantSame(t, rules, of(t, "http://a.x.com"), of(t, "http://b.x.com"), true)
		wantSame(t, rules, of(t, "http://x.com"), of(t, "http://y.com"), false)
		wantSame(t, rules, of(t, "http://com"), of(t, "http://x.com"), false)
	}
}

// R5: what was asked before makes no difference.
func TestAskedAgain(t *testing.T) {
	a, b := of(t, "http://a.x.uk"), of(t, "http://b.x.uk")
	for range 3 {
		wantSame(t, []string{"uk"}, a, b, true)
		wantSame(t, []string{"x.uk"}, a, b, false)
		wantSame(t, []string{"A"}, a, b, false)
		wantOrigin(t, a, "http://a.x.uk")
		wantOrigin(t, api.URL{}, "null")
	}
}
