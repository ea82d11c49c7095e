package setcookie_test

import (
	"math"
	"math/big"
	"math/rand"
	"regexp"
	"strconv"
	"strings"
	"testing"

	"footman/api"
	"footman/ascii"
	"footman/dates"
	"footman/setcookie"
)

const (
	lastSecond = 253402300799 // of the year 9999
	mostAge    = 1<<31 - 1
)

func wantParse(t *testing.T, s string, want api.Told) {
	t.Helper()
	if got, err := setcookie.Parse(s); got != want || err != api.OK {
		t.Errorf("Parse(%.80q): %.300v, %d, not %.300v, 0", s, got, err, want)
	}
}

func wantNoParse(t *testing.T, s string, want api.Errno) {
	t.Helper()
	if got, err := setcookie.Parse(s); got != (api.Told{}) || err != want {
		t.Errorf("Parse(%.80q): %.300v, %d, not nothing, %d", s, got, err, want)
	}
}

// wantAttributes: of a cookie a=b, behind whose pair stands what is given.
func wantAttributes(t *testing.T, s string, want api.Told) {
	t.Helper()
	want.Name, want.Value = "a", "b"
	wantParse(t, "a=b;"+s, want)
}

func wantText(t *testing.T, told api.Told, want string) {
	t.Helper()
	if got, err := setcookie.Text(told); got != want || err != api.OK {
		t.Errorf("Text(%.300v): %.300q, %d, not %.300q, 0", told, got, err, want)
	}
}

func wantNoText(t *testing.T, told api.Told) {
	t.Helper()
	if got, err := setcookie.Text(told); got != "" || err != api.ErrArg {
		t.Errorf("Text(%.300v): %.300q, %d, not empty, 1", told, got, err)
	}
}

func wantUntil(t *testing.T, told api.Told, now, want int) {
	t.Helper()
	if got := setcookie.Until(told, now); got != want {
		t.Errorf("Until(%v, %d): %d, not %d", told, now, got, want)
	}
}

func oneByte(c byte) string { return string([]byte{c}) }

// mixed: every other byte great.
func mixed(s string) string {
	b := []byte(s)
	for i := 0; i < len(b); i += 2 {
		b[i] = strings.ToUpper(s)[i]
	}
	return string(b)
}

// written: a name in small letters, in great ones, mixed.
func written(s string) []string {
	return []string{strings.ToLower(s), strings.ToUpper(s), mixed(s)}
}

var (
	oddByte = regexp.MustCompile("[\\x00-\\x08\\x0a-\\x1f\\x7f]")
	pair    = regexp.MustCompile(`(?s)^[ \t]*([^=]*?)[ \t]*(?:(=)[ \t]*(.*?)[ \t]*)?$`)
	ageForm = regexp.MustCompile(`^-?[0-9]+$`)
)

// toldByWords does what the chapter's words say, by patterns; of bytes that are UTF-8.
func toldByWords(s string) (api.Told, api.Errno) {
	if len(s) > 65536 {
		return api.Told{}, api.ErrLimit
	}
	if oddByte.MatchString(s) {
		return api.Told{}, api.ErrForm
	}
	var told api.Told
	for i, part := range strings.Split(s, ";") {
		found := pair.FindStringSubmatch(part)
		name, sign, value := found[1], found[2], found[3]
		if i > 0 {
			attributeByWords(&told, ascii.Lower(name), value)
			continue
		}
		if sign == "" {
			name, value = "", name
		}
		if len(name+value) > 4096 {
			return api.Told{}, api.ErrLimit
		}
		if name+value == "" {
			return api.Told{}, api.ErrForm
		}
		told.Name, told.Value = name, value
	}
	return told, api.OK
}

func attributeByWords(told *api.Told, name, value string) {
	if len(value) > 1024 {
		return
	}
	switch name {
	case "expires":
		if n, ok := dates.Cookie(value); ok {
			told.Expires, told.HasExpire = n, true
		}
	case "max-age":
		if ageForm.MatchString(value) {
			n, _ := new(big.Int).SetString(value, 10)
			if n.CmpAbs(big.NewInt(mostAge)) > 0 {
				n = big.NewInt(mostAge * int64(n.Sign()))
			}
			told.Age, told.HasAge = int(n.Int64()), true
		}
	case "domain":
		if value != "" && value[0] == '.' {
			value = value[1:]
		}
		told.Domain = ascii.Lower(value)
	case "path":
		if value == "" || value[0] != '/' {
			value = ""
		}
		told.Path = value
	case "secure":
		told.Secure = true
	case "httponly":
		told.Hidden = true
	case "samesite":
		told.Site = map[string]api.Site{"strict": 1, "lax": 2, "none": 3}[ascii.Lower(value)]
	}
}

// textByWords: what is told, whether Parse of it answers the cookie or not.
func textByWords(told api.Told) string {
	text := told.Name + "=" + told.Value
	if told.HasExpire {
		date, _ := dates.Text(told.Expires)
		text += "; Expires=" + date
	}
	if told.HasAge {
		text += "; Max-Age=" + strconv.Itoa(told.Age)
	}
	if told.Domain != "" {
		text += "; Domain=" + told.Domain
	}
	if told.Path != "" {
		text += "; Path=" + told.Path
	}
	if told.Secure {
		text += "; Secure"
	}
	if told.Hidden {
		text += "; HttpOnly"
	}
	if told.Site != api.SiteUnset {
		text += "; SameSite=" + map[api.Site]string{1: "Strict", 2: "Lax", 3: "None"}[told.Site]
	}
	return text
}

func pick[T any](r *rand.Rand, from ...T) T { return from[r.Intn(len(from))] }

// someBlanks are few, and often none.
func someBlanks(r *rand.Rand) string { return pick(r, "", "", "", " ", "\t", " \t ") }

func someValue(r *rand.Rand) string {
	return pick(r, "", "x", "/", "/x", "/x y", "x/", ".a", "..a", ".", "A.B", ".É", "0", "7", "-7", "-", "--7", "+7", "7x", "007", "-0", "2147483647", "2147483648", "-2147483648", "99999999999999999999",
		"Wed, 09 Jun 2021 10:18:14 GMT", "1 jan 1601 0:0:0", "30 Feb 2000 0:0:0", "strict", "Lax", "NONE", "laxx", "=", "a=b", "x\ty", "\u212a", strings.Repeat("/", 1024), strings.Repeat("/", 1025))
}

func someName(r *rand.Rand) string {
	name := pick(r, "expires", "max-age", "max-age", "domain", "path", "secure", "httponly", "samesite", "samesite", "x", "", "max age", "max-ag", "path ", "e\u017fpires")
	return pick(r, name, strings.ToUpper(name), mixed(name))
}

func someText(r *rand.Rand) string {
	text := pick(r, "a=b", "a=b", "a=b", "a", "=b", "a=", " a = b ", "a=b=c", "", "=", "\t", "a=\x00", "\x7f", "=="+strings.Repeat("b", 4095), "a b=\u00e9 c")
	for range r.Intn(6) {
		text += ";" + someBlanks(r) + someName(r) + someBlanks(r)
		if r.Intn(5) > 0 {
			text += "=" + someBlanks(r) + someValue(r) + someBlanks(r)
		}
	}
	return text
}

// someTold is often one that may be told.
func someTold(r *rand.Rand) api.Told {
	told := api.Told{Name: pick(r, "a", "a", "a", "a b", "", " a", "a;", "a=", "a\n"), Value: pick(r, "b", "b", "b", "", "b=c", "=", "b ", "b;c", "\x7f", "b;Secure")}
	told.Domain = pick(r, "", "", "d", "d.e", ".d", "D", "d;", " d", "d;path=/")
	told.Path = pick(r, "", "", "/", "/p", "/P q", "p", "/p;", "/p ", "/p;Secure")
	told.Secure, told.Hidden = r.Intn(2) == 0, r.Intn(2) == 0
	if r.Intn(2) == 0 {
		told.Expires, told.HasExpire = pick(r, 0, 1, 784111777, lastSecond, lastSecond+1, -1), r.Intn(8) > 0
	}
	if r.Intn(2) == 0 {
		told.Age, told.HasAge = pick(r, 0, 1, -1, mostAge, -mostAge, mostAge+1, -mostAge-1), r.Intn(8) > 0
	}
	told.Site = api.Site(r.Intn(9) / 2)
	return told
}

// P10.1: the chapter's examples.
func TestParseOfExamples(t *testing.T) {
	wantParse(t, "SID=31d4; Path=/; Secure; HttpOnly", api.Told{Name: "SID", Value: "31d4", Path: "/", Secure: true, Hidden: true})
	wantParse(t, "a", api.Told{Value: "a"})
	wantParse(t, "=b", api.Told{Value: "b"})
	wantParse(t, "a=b=c; x; path=y; domain=.EXAMPLE.com", api.Told{Name: "a", Value: "b=c", Domain: "example.com"})
	wantAttributes(t, " Max-Age=10; max-age=x; MAX-AGE=-5", api.Told{Age: -5, HasAge: true})
	wantAttributes(t, " Expires=Wed, 09 Jun 2021 10:18:14 GMT; expires=x", api.Told{Expires: 1623233894, HasExpire: true})
	wantAttributes(t, " SameSite=lAx", api.Told{Site: api.SiteLax})
	wantAttributes(t, " SameSite=Strict; SameSite=x", api.Told{})
	wantAttributes(t, " Path=/x; Path=", api.Told{})
	for _, s := range []string{"", ";", "=", "a=b\n"} {
		wantNoParse(t, s, api.ErrForm)
	}
	wantNoParse(t, "a="+strings.Repeat("b", 4096), api.ErrLimit)
}

// P10.1: the first part, and what is no cookie.
func TestParseOfFirstPart(t *testing.T) {
	for s, want := range map[string]api.Told{
		// with an equals sign, with several
		"a=b": {Name: "a", Value: "b"}, "a=": {Name: "a"}, "a=b=": {Name: "a", Value: "b="}, "a==b": {Name: "a", Value: "=b"}, "a=b=c=d": {Name: "a", Value: "b=c=d"}, "==": {Value: "="}, "=b=c": {Value: "b=c"}, "a= =": {Name: "a", Value: "="},
		// without one
		"a": {Value: "a"}, " a b\t": {Value: "a b"}, "Secure": {Value: "Secure"}, "a;b=c": {Value: "a"}, "path;path=/": {Value: "path", Path: "/"},
		// blanks around, and within
		" a = b ": {Name: "a", Value: "b"}, "\ta\t=\tb\t": {Name: "a", Value: "b"}, " \ta b \t= \tc d \t;": {Name: "a b", Value: "c d"}, " =b": {Value: "b"}, "a= ": {Name: "a"}, "a\tb=c\td": {Name: "a\tb", Value: "c\td"}, "a= b = c ": {Name: "a", Value: "b = c"},
		// it is no attribute, and letters stay as they are
		"Path=/x": {Name: "Path", Value: "/x"}, "secure=": {Name: "secure"}, "A=B": {Name: "A", Value: "B"}, `a="b c"`: {Name: "a", Value: `"b c"`}, "a,b=c,d": {Name: "a,b", Value: "c,d"},
		// bytes that form no sign, and blanks that are none
		"\xff=\xc3": {Name: "\xff", Value: "\xc3"}, "\x80": {Value: "\x80"}, "é=日本": {Name: "é", Value: "日本"}, "\u00a0a=b\u00a0": {Name: "\u00a0a", Value: "b\u00a0"}, "\u2003": {Value: "\u2003"},
	} {
		wantParse(t, s, want)
	}
	for _, s := range []string{"", " ", "\t", " \t ", ";", ";;;;", " ; ", "=", " = ", "\t=\t", "=;", ";a=b", ";path=/", " ;a", "= ;secure", ";=;="} {
		wantNoParse(t, s, api.ErrForm)
	}
}

// P10.1
func TestParseOfEveryByte(t *testing.T) {
	for i := range 256 {
		c := oneByte(byte(i))
		texts := []string{"a" + c + "z=b", "a=b" + c + "z", "a=b;x=" + c + "z", "a=b;y" + c + "z", "a=b; domain=x" + c + "z", "a=b;" + c, "a=b" + c, c + "a=b"}
		if i < 32 && i != 9 || i == 127 {
			for _, s := range append(texts, c) {
				wantNoParse(t, s, api.ErrForm)
			}
			continue
		}
		wantAttributes(t, "x="+c+"z", api.Told{})
		if c != ";" && c != "=" {
			wantParse(t, texts[0], api.Told{Name: "a" + c + "z", Value: "b"})
			wantParse(t, texts[1], api.Told{Name: "a", Value: "b" + c + "z"})
			wantParse(t, texts[4], api.Told{Name: "a", Value: "b", Domain: "x" + ascii.Lower(c) + "z"})
		}
	}
}

// P10.1: each limit itself, and one more.
func TestParseOfLimits(t *testing.T) {
	most := "a=b;" + strings.Repeat("x", api.MaxText-4)
	wantParse(t, most, api.Told{Name: "a", Value: "b"})
	wantNoParse(t, most+"x", api.ErrLimit)
	wantParse(t, "a=b"+strings.Repeat(" ", api.MaxText-3), api.Told{Name: "a", Value: "b"})
	wantNoParse(t, "a=b"+strings.Repeat(" ", api.MaxText-2), api.ErrLimit)
	wantParse(t, "a=b"+strings.Repeat(";", api.MaxText-3), api.Told{Name: "a", Value: "b"})
	wantNoParse(t, strings.Repeat(";", api.MaxText), api.ErrForm)
	wantNoParse(t, strings.Repeat(";", api.MaxText+1), api.ErrLimit)

	half := strings.Repeat("x", api.MaxCookie/2)
	wantParse(t, half+"="+half, api.Told{Name: half, Value: half})
	wantParse(t, " "+half+" = "+half+" ;Secure", api.Told{Name: half, Value: half, Secure: true})
	wantParse(t, half+half, api.Told{Value: half + half})
	wantParse(t, half+half+"=", api.Told{Name: half + half})
	wantParse(t, "="+half+half, api.Told{Value: half + half})
	for _, s := range []string{half + "=" + half + "x", half + "x=" + half, half + half + "x", half + half + "x=", "=" + half + half + "x", half + "=" + half + "=", half + "=" + half + "x;Secure"} {
		wantNoParse(t, s, api.ErrLimit)
	}
}

// P10.1, R2: of several errors the one that is named first.
func TestParseOfSeveralErrors(t *testing.T) {
	wantNoParse(t, "\n"+strings.Repeat("x", api.MaxText), api.ErrLimit)
	wantNoParse(t, strings.Repeat("x", api.MaxCookie+1)+"\n", api.ErrForm)
	wantNoParse(t, "a="+strings.Repeat("b", api.MaxCookie)+";c=\x7f", api.ErrForm)
	wantNoParse(t, strings.Repeat(" ", api.MaxText+1), api.ErrLimit)
}

// attribute: its name, a value of it, and what that says; another value, and what that says.
type attribute struct {
	name, value, other string
	want, wantOther    api.Told
}

func everyAttribute() []attribute {
	return []attribute{
		{"Expires", "Wed, 09 Jun 2021 10:18:14 GMT", "1 jan 70 0:0:0", api.Told{Expires: 1623233894, HasExpire: true}, api.Told{HasExpire: true}},
		{"Max-Age", "10", "0", api.Told{Age: 10, HasAge: true}, api.Told{HasAge: true}},
		{"Domain", ".Example.com", "x", api.Told{Domain: "example.com"}, api.Told{Domain: "x"}},
		{"Path", "/A/b", "/", api.Told{Path: "/A/b"}, api.Told{Path: "/"}},
		{"Secure", "x", "", api.Told{Secure: true}, api.Told{Secure: true}},
		{"HttpOnly", "0", "", api.Told{Hidden: true}, api.Told{Hidden: true}},
		{"SameSite", "Lax", "None", api.Told{Site: api.SiteLax}, api.Told{Site: api.SiteNone}},
	}
}

// P10.1: each in small letters, in great ones and mixed, with blanks around it, alone, among others, told twice.
func TestParseOfEveryAttribute(t *testing.T) {
	for _, c := range everyAttribute() {
		for _, name := range written(c.name) {
			wantAttributes(t, name+"="+c.value, c.want)
			wantAttributes(t, " \t"+name+"\t = \t"+c.value+" \t", c.want)
			wantAttributes(t, "x=y;;=;"+name+"="+c.value+";;=;z", c.want)
			wantAttributes(t, name+"="+c.other, c.wantOther)
			wantAttributes(t, c.name+"="+c.value+";"+name+"="+c.other, c.wantOther)
			wantAttributes(t, name+"="+c.other+";"+c.name+"="+c.value, c.want)
			wantAttributes(t, name+"="+c.value+";"+c.name+"="+c.value, c.want)
		}
		for _, near := range []string{"x" + c.name, c.name + "x", c.name[1:], c.name[:len(c.name)-1], "=" + c.name, "\xff" + c.name, c.name + "\u00a0", strings.Replace(c.name, "s", "\u017f", 1), strings.Replace(c.name, "i", "\u0130", 1), c.name[:1] + " " + c.name[1:]} {
			if near != c.name {
				wantAttributes(t, near+"="+c.value, api.Told{})
			}
		}
	}
}

// P10.1: without a value, with an empty one, behind one that says something.
func TestParseOfAttributesWithoutValue(t *testing.T) {
	for _, c := range everyAttribute() {
		alone := api.Told{}
		switch c.name {
		case "Secure", "HttpOnly":
			alone = c.want
		}
		behind := c.want
		switch c.name {
		case "Domain", "Path", "SameSite":
			behind = api.Told{}
		}
		for _, name := range written(c.name) {
			for _, empty := range []string{"", "=", " = \t", " "} {
				wantAttributes(t, name+empty, alone)
				wantAttributes(t, name+empty+";", alone)
				wantAttributes(t, name+"="+c.value+"; "+name+empty, behind)
				wantAttributes(t, name+empty+"; "+name+"="+c.value, c.want)
			}
		}
	}
}

// P10.1: a value of MaxAttr bytes, and of one more, which says nothing.
func TestParseOfLongAttributes(t *testing.T) {
	fill := func(name, begin, end string, length int) string {
		return name + "=" + begin + strings.Repeat("0", length-len(begin)-len(end)) + end
	}
	ofLength := func(length int) []string {
		return []string{
			fill("Expires", "1 jan 70 0:0:0 ", "", length), fill("Max-Age", "", "7", length), fill("Domain", ".", "", length), fill("Path", "/", "", length),
			fill("Secure", "", "", length), fill("HttpOnly", "", "", length),
		}
	}
	noughts := strings.Repeat("0", api.MaxAttr-1)
	for i, want := range []api.Told{{HasExpire: true}, {Age: 7, HasAge: true}, {Domain: noughts}, {Path: "/" + noughts}, {Secure: true}, {Hidden: true}} {
		wantAttributes(t, ofLength(api.MaxAttr)[i], want)
		wantAttributes(t, ofLength(api.MaxAttr + 1)[i], api.Told{})
	}
	for i, before := range everyAttribute()[:6] {
		wantAttributes(t, before.name+"="+before.value+";"+ofLength(api.MaxAttr + 1)[i], before.want)
	}
	// blanks around it do not count
	blanks := strings.Repeat(" \t", api.MaxAttr)
	wantAttributes(t, "Path="+blanks+"/x"+blanks, api.Told{Path: "/x"})
	wantAttributes(t, "Path"+blanks+"=/"+noughts+blanks, api.Told{Path: "/" + noughts})
	wantAttributes(t, "Secure"+blanks, api.Told{Secure: true})
	// what makes no value of a site, said behind one, and too long to say so
	wantAttributes(t, "SameSite=Lax; SameSite="+strings.Repeat("x", api.MaxAttr), api.Told{})
	wantAttributes(t, "SameSite=Lax; SameSite="+strings.Repeat("x", api.MaxAttr+1), api.Told{Site: api.SiteLax})
	wantAttributes(t, "Path=/x; Path="+strings.Repeat("x", api.MaxAttr), api.Told{})
	wantAttributes(t, "Path=/x; Path="+strings.Repeat("x", api.MaxAttr+1), api.Told{Path: "/x"})
}

// P10.1
func TestParseOfAge(t *testing.T) {
	for value, want := range map[string]int{
		"0": 0, "1": 1, "10": 10, "9876543210123456789": mostAge, "-1": -1, "-0": 0, "-10": -10,
		// noughts ahead
		"00": 0, "007": 7, "-007": -7, "-000": 0, strings.Repeat("0", 40): 0, strings.Repeat("0", 40) + "12": 12, "-" + strings.Repeat("0", 40) + "12": -12, "-" + strings.Repeat("0", 40): 0,
		// about the greatest one, and the least one
		"2147483646": mostAge - 1, "2147483647": mostAge, "2147483648": mostAge, "2147483650": mostAge, "-2147483646": 1 - mostAge, "-2147483647": -mostAge, "-2147483648": -mostAge, "-2147483650": -mostAge, "4294967296": mostAge, "-4294967297": -mostAge,
		strings.Repeat("0", 30) + "2147483647": mostAge, strings.Repeat("0", 30) + "2147483648": mostAge,
		// many digits
		"999999999999999999": mostAge, "1000000000000000000": mostAge, "9223372036854775807": mostAge, "9223372036854775808": mostAge, "18446744073709551617": mostAge, "-9223372036854775809": -mostAge, "-18446744073709551617": -mostAge,
		strings.Repeat("9", api.MaxAttr): mostAge, "-" + strings.Repeat("9", api.MaxAttr-1): -mostAge,
	} {
		wantAttributes(t, "Max-Age="+value, api.Told{Age: want, HasAge: true})
		wantAttributes(t, "Max-Age=5; Max-Age = "+value+" ", api.Told{Age: want, HasAge: true})
	}
	for _, value := range []string{"", "-", "--1", "-+1", "+1", "+", "- 1", "1-", "1 0", "1\t0", "x", "1x", "x1", "1x1", "-x", "-1x", "1.0", "1e3", "0x10", "1_0", "1,0", "\"1\"", "=1", "1=", "１", "٣", "\xff", "1\xff", "−1", "1\u00a0", strings.Repeat("9", 30) + "x"} {
		wantAttributes(t, "Max-Age="+value, api.Told{})
		wantAttributes(t, "Max-Age=5; Max-Age="+value, api.Told{Age: 5, HasAge: true})
	}
}

// P10.1: each byte within an age.
func TestParseOfAgeOfEveryByte(t *testing.T) {
	for i := range 256 {
		c := oneByte(byte(i))
		if i < 32 && i != 9 || i == 127 || c == ";" {
			continue
		}
		if '0' <= i && i <= '9' {
			wantAttributes(t, "Max-Age=1"+c+"2", api.Told{Age: 102 + 10*(i-'0'), HasAge: true})
			wantAttributes(t, "Max-Age=-"+c+"2", api.Told{Age: -2 - 10*(i-'0'), HasAge: true})
			continue
		}
		wantAttributes(t, "Max-Age=1"+c+"2", api.Told{})
		wantAttributes(t, "Max-Age=-"+c+"2", api.Told{})
	}
}

// P10.1
func TestParseOfExpires(t *testing.T) {
	for value, want := range map[string]int{
		"Wed, 09 Jun 2021 10:18:14 GMT": 1623233894, "Sunday, 06-Nov-94 08:49:37 GMT": 784111777, "Sun Nov  6 08:49:37 1994": 784111777, "1 jan 70 0:0:0": 0, "31 Dec 1969 23:59:59": -1,
		"1 Jan 1601 0:0:0": -11644473600, "31 Dec 9999 23:59:59": lastSecond, "x=1 jan 70 0:0:1": 1,
	} {
		wantAttributes(t, "Expires="+value, api.Told{Expires: want, HasExpire: true})
		wantAttributes(t, "Expires=1 jan 2000 0:0:0; Expires="+value, api.Told{Expires: want, HasExpire: true})
	}
	for _, value := range []string{"", "x", "0", "784111777", "Wed, 09 Jun 2021", "10:18:14", "30 Feb 2000 0:0:0", "1 Jan 1600 0:0:0", "1 Jan 2000 24:0:0", "-1", "\xff"} {
		wantAttributes(t, "Expires="+value, api.Told{})
		wantAttributes(t, "Expires=1 jan 70 0:0:1; Expires="+value, api.Told{Expires: 1, HasExpire: true})
	}
	// an age and a date stand beside one another
	wantAttributes(t, "Expires=1 jan 70 0:0:1; Max-Age=2", api.Told{Expires: 1, HasExpire: true, Age: 2, HasAge: true})
	wantAttributes(t, "Max-Age=2; Expires=1 jan 70 0:0:1; Max-Age=; Expires=", api.Told{Expires: 1, HasExpire: true, Age: 2, HasAge: true})
}

// P10.1
func TestParseOfDomain(t *testing.T) {
	for value, want := range map[string]string{
		"a": "a", "a.b": "a.b", ".a": "a", "..a": ".a", "...a": "..a", ".": "", "..": ".", "": "", ". a": " a", " .a ": "a", "a.": "a.", ".a.": "a.", "EXAMPLE.Com": "example.com", ".A": "a",
		"1.2.3.4": "1.2.3.4", "[::1]": "[::1]", "a b": "a b", "a=b": "a=b", "=": "=", "É": "É", "\xff": "\xff", "\u212a": "\u212a", "*.A": "*.a",
	} {
		wantAttributes(t, "Domain="+value, api.Told{Domain: want})
		wantAttributes(t, "Domain=x; Domain="+value, api.Told{Domain: want})
	}
}

// P10.1
func TestParseOfPath(t *testing.T) {
	for value, want := range map[string]string{
		"/": "/", "/a": "/a", "/A/b": "/A/b", "//": "//", "/a b": "/a b", "/a=b": "/a=b", "/\xff": "/\xff", "/../a": "/../a", "/?q#m": "/?q#m", " /a ": "/a",
		"": "", "a": "", "a/": "", "\"/\"": "", "=/": "", "\\": "", "http://h/": "", "\xff/": "", "%2f": "",
	} {
		wantAttributes(t, "Path="+value, api.Told{Path: want})
		wantAttributes(t, "Path=/x; Path="+value, api.Told{Path: want})
	}
}

// P10.1
func TestParseOfSite(t *testing.T) {
	for value, want := range map[string]api.Site{"Strict": api.SiteStrict, "Lax": api.SiteLax, "None": api.SiteNone} {
		for _, value := range written(value) {
			wantAttributes(t, "SameSite="+value, api.Told{Site: want})
			wantAttributes(t, "SameSite=x; SameSite= "+value+" ", api.Told{Site: want})
			for _, near := range []string{"x" + value, value + "x", value[1:], "=" + value, "\"" + value + "\"", value + " " + value, "\xff" + value} {
				wantAttributes(t, "SameSite="+near, api.Told{})
				wantAttributes(t, "SameSite="+value+"; SameSite="+near, api.Told{})
			}
		}
	}
	for _, value := range []string{"", "x", "Unset", "Default", "0", "1", "\u017ftrict"} {
		wantAttributes(t, "SameSite="+value, api.Told{})
		wantAttributes(t, "SameSite=Strict; SameSite="+value, api.Told{})
	}
}

// P10.1: of several attributes each says its own.
func TestParseOfAllAttributes(t *testing.T) {
	all := api.Told{Name: "a", Value: "b", Domain: "d", Path: "/p", Expires: 784111777, HasExpire: true, Age: -3, HasAge: true, Secure: true, Hidden: true, Site: api.SiteNone}
	wantParse(t, "a=b;Expires=Sun, 06 Nov 1994 08:49:37 GMT;Max-Age=-3;Domain=d;Path=/p;Secure;HttpOnly;SameSite=None", all)
	wantParse(t, "a=b; samesite=none; httponly; secure; path=/p; domain=d; max-age=-3; expires=Sun, 06 Nov 1994 08:49:37 GMT", all)
}

// P10.1: against the chapter's words.
func TestParseIsByWords(t *testing.T) {
	r := rand.New(rand.NewSource(1))
	told, failed := 0, 0
	for range 30000 {
		s := someText(r)
		want, err := toldByWords(s)
		if err != api.OK {
			failed++
			wantNoParse(t, s, err)
			continue
		}
		if want != (api.Told{Name: want.Name, Value: want.Value}) {
			told++
		}
		wantParse(t, s, want)
	}
	if told < 5000 || failed < 3000 {
		t.Errorf("only %d of the texts say something beside the pair, only %d none", told, failed)
	}
}

// P10.2: the chapter's examples, each attribute alone, all of them, none.
func TestText(t *testing.T) {
	wantText(t, api.Told{Name: "SID", Value: "31d4", Path: "/", Secure: true, Hidden: true}, "SID=31d4; Path=/; Secure; HttpOnly")
	wantNoText(t, api.Told{Name: "a;"})
	for want, told := range map[string]api.Told{
		"": {}, "; Expires=Sun, 06 Nov 1994 08:49:37 GMT": {Expires: 784111777, HasExpire: true}, "; Expires=Thu, 01 Jan 1970 00:00:00 GMT": {HasExpire: true}, "; Expires=Fri, 31 Dec 9999 23:59:59 GMT": {Expires: lastSecond, HasExpire: true},
		"; Max-Age=10": {Age: 10, HasAge: true}, "; Max-Age=0": {HasAge: true}, "; Max-Age=-3": {Age: -3, HasAge: true}, "; Max-Age=2147483647": {Age: mostAge, HasAge: true}, "; Max-Age=-2147483647": {Age: -mostAge, HasAge: true},
		"; Domain=d.e": {Domain: "d.e"}, "; Domain=\xff": {Domain: "\xff"}, "; Path=/": {Path: "/"}, "; Path=/P q=r": {Path: "/P q=r"}, "; Secure": {Secure: true}, "; HttpOnly": {Hidden: true},
		"; SameSite=Strict": {Site: api.SiteStrict}, "; SameSite=Lax": {Site: api.SiteLax}, "; SameSite=None": {Site: api.SiteNone},
		"; Expires=Sun, 06 Nov 1994 08:49:37 GMT; Max-Age=-3; Domain=d; Path=/p; Secure; HttpOnly; SameSite=None": {Domain: "d", Path: "/p", Expires: 784111777, HasExpire: true, Age: -3, HasAge: true, Secure: true, Hidden: true, Site: api.SiteNone},
	} {
		told.Name, told.Value = "a", "b"
		wantText(t, told, "a=b"+want)
	}
}

// P10.2
func TestTextOfNameAndValue(t *testing.T) {
	for want, pair := range map[string][2]string{"a=": {"a", ""}, "=b": {"", "b"}, "==": {"", "="}, "a=b=c": {"a", "b=c"}, "a==": {"a", "="}, "a b=c\td": {"a b", "c\td"}, "=a=b": {"", "a=b"}, "A=B": {"A", "B"}, "\xff=é": {"\xff", "é"}, "path=/": {"path", "/"}} {
		wantText(t, api.Told{Name: pair[0], Value: pair[1]}, want)
		wantText(t, api.Told{Name: pair[0], Value: pair[1], Secure: true}, want+"; Secure")
	}
	wantNoText(t, api.Told{})
	wantNoText(t, api.Told{Path: "/", Secure: true})
	for _, pair := range [][2]string{
		{"a;", "b"}, {";", ""}, {"", ";"}, {"a", "b;"}, {"a", ";"}, {"a", "b;c"}, {"a", "b; Secure"}, {"a=", "b"}, {"=", ""}, {"a=b", "c"}, {"a=b", ""},
		{" a", "b"}, {"a ", "b"}, {"\ta", "b"}, {"a", " b"}, {"a", "b\t"}, {" ", ""}, {"", " "}, {"", "\t"},
		{"a\n", "b"}, {"a", "b\x00c"}, {"a", "\x7f"}, {"\x1f", ""}, {"\r", "b"},
	} {
		wantNoText(t, api.Told{Name: pair[0], Value: pair[1]})
		wantNoText(t, api.Told{Name: pair[0], Value: pair[1], Secure: true})
	}
	half := strings.Repeat("x", api.MaxCookie/2)
	wantText(t, api.Told{Name: half, Value: half}, half+"="+half)
	wantNoText(t, api.Told{Name: half + "x", Value: half})
	wantNoText(t, api.Told{Name: half, Value: half + "x"})
	wantNoText(t, api.Told{Name: strings.Repeat("x", 1<<20)})
}

// P10.2: what an attribute may not be.
func TestTextOfWrongAttributes(t *testing.T) {
	least, most := math.MinInt, math.MaxInt
	for _, told := range []api.Told{
		{Domain: ".d"}, {Domain: "..d"}, {Domain: "."}, {Domain: "D"}, {Domain: "d.E"}, {Domain: "d;"}, {Domain: ";"}, {Domain: " d"}, {Domain: "d "}, {Domain: " "}, {Domain: "d\n"}, {Domain: "d; Path=/"}, {Domain: strings.Repeat("d", api.MaxAttr+1)},
		{Path: "p"}, {Path: "p/"}, {Path: "/p;"}, {Path: "/p "}, {Path: " /p"}, {Path: "/\x7f"}, {Path: "/p; Secure"}, {Path: "/p; Secure", Secure: true}, {Path: strings.Repeat("/", api.MaxAttr+1)}, {Path: ";"},
		{Age: mostAge + 1, HasAge: true}, {Age: -mostAge - 1, HasAge: true}, {Age: least, HasAge: true}, {Age: most, HasAge: true}, {Age: 5}, {Age: -5},
		{Expires: -1, HasExpire: true}, {Expires: lastSecond + 1, HasExpire: true}, {Expires: -11644473600, HasExpire: true}, {Expires: least, HasExpire: true}, {Expires: most, HasExpire: true}, {Expires: 5}, {Expires: -5},
		{Site: 4}, {Site: 255},
	} {
		told.Name, told.Value = "a", "b"
		wantNoText(t, told)
		told.Secure, told.Hidden = true, true
		wantNoText(t, told)
	}
	long := strings.Repeat("/", api.MaxAttr)
	wantText(t, api.Told{Name: "a", Path: long}, "a=; Path="+long)
	wantText(t, api.Told{Name: "a", Domain: long}, "a=; Domain="+long)
	wantNoText(t, api.Told{Name: "a", Domain: strings.Repeat("d", 1<<20)})
}

// P10.2: against the chapter's words; P10.4: Parse of Text is the cookie.
func TestTextIsByWords(t *testing.T) {
	r := rand.New(rand.NewSource(2))
	has, none := 0, 0
	for range 30000 {
		told := someTold(r)
		want := textByWords(told)
		if back, err := toldByWords(want); err != api.OK || back != told {
			none++
			wantNoText(t, told)
			continue
		}
		has++
		wantText(t, told, want)
		wantParse(t, want, told)
	}
	if has < 300 || none < 300 {
		t.Errorf("only %d of the cookies have a text, only %d none", has, none)
	}
}

// P10.3: the chapter's examples.
func TestUntilOfExamples(t *testing.T) {
	wantUntil(t, api.Told{Age: 10, HasAge: true}, 100, 110)
	wantUntil(t, api.Told{HasAge: true}, 100, 0)
	wantUntil(t, api.Told{Expires: 50, HasExpire: true}, 100, 0)
	wantUntil(t, api.Told{}, 100, -1)
	wantUntil(t, api.Told{Age: mostAge, HasAge: true}, 0, 34560000)
}

// P10.3
func TestUntilOfAge(t *testing.T) {
	for age, lives := range map[int]int{1: 1, 2: 2, 3600: 3600, api.MaxAge - 1: api.MaxAge - 1, api.MaxAge: api.MaxAge, api.MaxAge + 1: api.MaxAge, mostAge: api.MaxAge, math.MaxInt: api.MaxAge} {
		told := api.Told{Age: age, HasAge: true}
		for _, now := range []int{0, 1, 100, api.MaxAge, 1 << 35, api.MaxTime - 1, api.MaxTime} {
			wantUntil(t, told, now, now+lives)
		}
		wantUntil(t, told, -1, lives)
		wantUntil(t, told, math.MinInt, lives)
		wantUntil(t, told, api.MaxTime+1, api.MaxTime+lives)
		wantUntil(t, told, math.MaxInt, api.MaxTime+lives)
	}
	for _, age := range []int{0, -1, -mostAge, math.MinInt} {
		for _, now := range []int{math.MinInt, -1, 0, 1, 100, api.MaxTime, api.MaxTime + 1, math.MaxInt} {
			wantUntil(t, api.Told{Age: age, HasAge: true}, now, 0)
		}
	}
}

// P10.3
func TestUntilOfDate(t *testing.T) {
	for _, now := range []int{0, 1, 100, 1 << 35, api.MaxTime} {
		for at, want := range map[int]int{
			now: 0, now - 1: 0, now - 1<<50: 0, math.MinInt: 0,
			now + 1: now + 1, now + 100: now + 100, now + api.MaxAge - 1: now + api.MaxAge - 1, now + api.MaxAge: now + api.MaxAge, now + api.MaxAge + 1: now + api.MaxAge, math.MaxInt: now + api.MaxAge,
		} {
			wantUntil(t, api.Told{Expires: at, HasExpire: true}, now, want)
		}
	}
	// a time below 0 is as 0, above MaxTime as that
	for _, now := range []int{-1, -100, math.MinInt} {
		for at, want := range map[int]int{-50: 0, -1: 0, 0: 0, 1: 1, api.MaxAge: api.MaxAge, api.MaxAge + 1: api.MaxAge} {
			wantUntil(t, api.Told{Expires: at, HasExpire: true}, now, want)
		}
	}
	for _, now := range []int{api.MaxTime + 1, 1 << 50, math.MaxInt} {
		for at, want := range map[int]int{api.MaxTime: 0, api.MaxTime + 1: api.MaxTime + 1, math.MaxInt: api.MaxTime + api.MaxAge} {
			wantUntil(t, api.Told{Expires: at, HasExpire: true}, now, want)
		}
	}
}

// P10.3: an age counts ahead of a date; what was not told does not count.
func TestUntilOfBothAndNeither(t *testing.T) {
	wantUntil(t, api.Told{Age: 10, HasAge: true, Expires: 500, HasExpire: true}, 100, 110)
	wantUntil(t, api.Told{Age: 10, HasAge: true, Expires: 105, HasExpire: true}, 100, 110)
	wantUntil(t, api.Told{Age: 10, HasAge: true, Expires: 50, HasExpire: true}, 100, 110)
	wantUntil(t, api.Told{HasAge: true, Expires: 500, HasExpire: true}, 100, 0)
	wantUntil(t, api.Told{Age: -1, HasAge: true, Expires: 500, HasExpire: true}, 100, 0)
	wantUntil(t, api.Told{Age: 10, Expires: 500, HasExpire: true}, 100, 500)
	wantUntil(t, api.Told{Age: -10, Expires: 500, HasExpire: true}, 100, 500)
	wantUntil(t, api.Told{Age: 10, HasAge: true, Expires: 500}, 100, 110)
	for _, now := range []int{math.MinInt, -1, 0, 100, api.MaxTime, math.MaxInt} {
		wantUntil(t, api.Told{}, now, -1)
		wantUntil(t, api.Told{Age: 10, Expires: 500}, now, -1)
		wantUntil(t, api.Told{Age: -10, Expires: -500}, now, -1)
		wantUntil(t, api.Told{Name: "a", Value: "b", Domain: "d", Path: "/", Secure: true, Hidden: true, Site: api.SiteNone}, now, -1)
	}
}

// P10.3: nothing else of a cookie makes a difference.
func TestUntilOfOtherFields(t *testing.T) {
	r := rand.New(rand.NewSource(3))
	for range 5000 {
		told, now := someTold(r), pick(r, -1, 0, 784111776, 784111777, lastSecond-5, api.MaxTime)
		bare := api.Told{Age: told.Age, HasAge: told.HasAge, Expires: told.Expires, HasExpire: told.HasExpire}
		wantUntil(t, told, now, setcookie.Until(bare, now))
	}
}

// P10.4: parts that say nothing make no difference, wherever they stand behind the first.
func TestPartsThatSayNothing(t *testing.T) {
	r := rand.New(rand.NewSource(4))
	nothing := []string{"", " ", "\t", "=", "= x", "x", "x=y", "Max-Age=x", "max-age", "Max-Age=-", "Expires=x", "expires", "version=1", "Priority=High", "Partitioned", "\xff=\xff", "path/=/x", "secure x", "Secure=" + strings.Repeat("x", api.MaxAttr+1), "Path=" + strings.Repeat("/", api.MaxAttr+1), "SameSite=" + strings.Repeat("x", api.MaxAttr+1)}
	count := 0
	for range 10000 {
		parts := strings.Split(someText(r), ";")
		want, err := setcookie.Parse(strings.Join(parts, ";"))
		if err != api.OK {
			continue
		}
		count++
		for range 1 + r.Intn(3) {
			at := 1 + r.Intn(len(parts))
			parts = append(parts[:at:at], append([]string{pick(r, nothing...)}, parts[at:]...)...)
		}
		wantParse(t, strings.Join(parts, ";"), want)
	}
	if count < 5000 {
		t.Errorf("only %d of the texts are cookies", count)
	}
}

// R1: whatever is given, each call ends.
func TestAnyBytes(t *testing.T) {
	r := rand.New(rand.NewSource(5))
	for range 5000 {
		b := make([]byte, r.Intn(60))
		for i := range b {
			b[i] = pick(r, byte(r.Intn(256)), ';', '=', ' ', '-', '0', '/')
		}
		s := string(b)
		told, err := setcookie.Parse(s)
		if err != api.OK && told != (api.Told{}) {
			t.Errorf("Parse(%q): %v beside %d", s, told, err)
		}
		for _, told := range []api.Told{told, {Name: s}, {Value: s, Expires: r.Int() - r.Int(), HasExpire: true}, {Name: "a", Domain: s, Path: s, Age: r.Int() - r.Int(), HasAge: true, Site: api.Site(r.Intn(256))}} {
			if text, err := setcookie.Text(told); err == api.OK {
				wantParse(t, text, told)
			} else {
				wantNoText(t, told)
			}
			setcookie.Until(told, r.Int()-r.Int())
		}
	}
	long := "a=b" + strings.Repeat(";max-age="+strings.Repeat("9", 1000), 64)
	wantParse(t, long, api.Told{Name: "a", Value: "b", Age: mostAge, HasAge: true})
}

// R5: what was asked before makes no difference.
func TestCallsHangOnNothingElse(t *testing.T) {
	r := rand.New(rand.NewSource(6))
	for range 200 {
		s := someText(r)
		want, wantErr := setcookie.Parse(s)
		setcookie.Parse(someText(r))
		setcookie.Text(someTold(r))
		if got, err := setcookie.Parse(s); got != want || err != wantErr {
			t.Errorf("Parse(%.80q): %v, %d, then %v, %d", s, want, wantErr, got, err)
		}
	}
}
