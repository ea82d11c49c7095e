package hosts_test

import (
	"math/rand"
	"slices"
	"strconv"
	"strings"
	"testing"

	"footman/addrs"
	"footman/api"
	"footman/hosts"
	"footman/percent"
	"footman/puny"
)

// foreignSigns are the bytes above 32 that no name has, as the chapter writes them.
const foreignSigns = "#%/:<>?@[\\]^|"

func wantParse(t *testing.T, s, want string) {
	t.Helper()
	if got, err := hosts.Parse(s); got != want || err != api.OK {
		t.Errorf("Parse(%.60q): %q, %d, not %q", s, got, err, want)
	}
}

func wantRefused(t *testing.T, s string) {
	t.Helper()
	if got, err := hosts.Parse(s); got != "" || err != api.ErrHost {
		t.Errorf("Parse(%.60q): %q, %d, though it is refused", s, got, err)
	}
}

func wantTooLong(t *testing.T, s string) {
	t.Helper()
	if got, err := hosts.Parse(s); got != "" || err != api.ErrLimit {
		t.Errorf("Parse of %d bytes, %.20q: %q, %d, though they are too many", len(s), s, got, err)
	}
}

func wantMachine(t *testing.T, s string, want bool) {
	t.Helper()
	if got := hosts.Machine(s); got != want {
		t.Errorf("Machine(%.60q): %v", s, got)
	}
}

func wantLabels(t *testing.T, s string, want ...string) {
	t.Helper()
	if got := hosts.Labels(s); !slices.Equal(got, want) {
		t.Errorf("Labels(%.60q): %.200q, not %.200q", s, got, want)
	}
}

func wantBelow(t *testing.T, host, other string, want bool) {
	t.Helper()
	if got := hosts.Below(host, other); got != want {
		t.Errorf("Below(%.60q, %.60q): %v", host, other, got)
	}
}

func oneByte(c byte) string { return string([]byte{c}) }

// threeSigns writes each byte of a text by '%'.
func threeSigns(s string) string {
	out := ""
	for i := range len(s) {
		two := strconv.FormatUint(uint64(s[i]), 16)
		out += "%" + strings.Repeat("0", 2-len(two)) + two
	}
	return out
}

// isForeign: has no name this byte?
func isForeign(c byte) bool {
	return c <= 32 || c == 127 || strings.IndexByte(foreignSigns, c) >= 0
}

// parseByWords does what the chapter's words say, in their order.
func parseByWords(s string) (string, api.Errno) {
	if len(s) > 65536 {
		return "", api.ErrLimit
	}
	if s != "" && s[0] == '[' {
		if s[len(s)-1] != ']' {
			return "", api.ErrHost
		}
		a, err := addrs.Six(s[1 : len(s)-1])
		if err != api.OK {
			return "", api.ErrHost
		}
		return "[" + addrs.Text(a) + "]", api.OK
	}
	parts := strings.Split(percent.Decode(s), ".")
	if n := len(parts); n > 1 && parts[n-1] == "" {
		parts = parts[:n-1]
	}
	name := ""
	for i, part := range parts {
		label, err := puny.Label(part)
		if err != api.OK {
			return "", api.ErrHost
		}
		if i > 0 {
			name += "."
		}
		name += label
	}
	for i := range len(name) {
		if isForeign(name[i]) {
			return "", api.ErrHost
		}
	}
	a, looks, err := addrs.Four(name)
	switch {
	case len(name) > 253, looks && err != api.OK:
		return "", api.ErrHost
	case looks:
		return addrs.Text(a), api.OK
	}
	return name, api.OK
}

func machineByWords(s string) bool {
	if s != "" && s[0] == '[' {
		return true
	}
	_, looks, err := addrs.Four(s)
	return looks && err == api.OK
}

// belowByWords holds the parts between the points against each other, from the last one on.
func belowByWords(host, other string) bool {
	if host == other {
		return true
	}
	if other == "" || machineByWords(host) || machineByWords(other) {
		return false
	}
	parts, last := strings.Split(host, "."), strings.Split(other, ".")
	return len(parts) > len(last) && slices.Equal(parts[len(parts)-len(last):], last)
}

// someTexts are made from a fixed seed, of pieces, so that many are nearly hosts.
func someTexts(seed int64, count, most int, pieces []string) []string {
	r := rand.New(rand.NewSource(seed))
	texts := []string{""}
	for range count {
		var text strings.Builder
		for range 1 + r.Intn(most) {
			text.WriteString(pieces[r.Intn(len(pieces))])
		}
		texts = append(texts, text.String())
	}
	return texts
}

// nearlyHosts are names, machines, and what is neither.
func nearlyHosts() []string {
	texts := someTexts(1, 20000, 9, []string{
		".", ".", ".", "a", "b", "Z", "0", "1", "-", "_", "é", "Ü", "☃", "xn--", "xn--9ca", "XN--N3H", "com", "%2e", "%2E", "%41", "%c3%bc", "%", "%5b", " ", "\"", "|", "\xff", "\x00", "[", "]", ":",
	})
	texts = append(texts, someTexts(2, 10000, 8, []string{".", ".", ".", "1", "0x", "7f", "255", "256", "08", "010", "%31", "%2e", "0", "65536"})...)
	texts = append(texts, someTexts(3, 10000, 7, []string{".", ".", "a", "b.c", "é", "9", "0x", "co.uk", "%61", "Ab"})...)
	for _, inner := range someTexts(4, 20000, 8, []string{":", ":", "::", "::", "1", "0", "f", "A0", "1.2.3.4", "12345", "g", "."}) {
		texts = append(texts, "["+inner+"]")
	}
	for _, inner := range []string{"", "::", "::1", "1:2:3:4:5:6:7:8", "a", "1.2.3.4"} {
		texts = append(texts, "["+inner, inner+"]", "[["+inner+"]]", "["+inner+"]]", "["+inner+"].", threeSigns("["+inner+"]"))
	}
	return texts
}

// longName has so many bytes, in parts of at most MaxLabel.
func longName(length int) string {
	name := strings.Repeat(strings.Repeat("a", 63)+".", 4) + strings.Repeat("b", 63)
	return name[:length]
}

// P5.1: the chapter's examples.
func TestParseOfTheExamples(t *testing.T) {
	wantParse(t, "ExAmple.COM", "example.com")
	wantParse(t, "example.com.", "example.com")
	wantParse(t, "b%C3%BCcher.de", "xn--bcher-kva.de")
	wantParse(t, "0x7f.1", "127.0.0.1")
	wantParse(t, "[::0:1]", "[::1]")
	for _, s := range []string{"a..b", "", ".", "a b", "a%00", "1.2.3.4.5", "[::1", "xn--k.com"} {
		wantRefused(t, s)
	}
	wantParse(t, "a_b.c", "a_b.c")
	wantParse(t, "a\"b", "a\"b")
	wantParse(t, "-.a", "-.a")
	wantParse(t, "a%2eb", "a.b")
}

// P5.1: MaxText bytes, and one more, of texts that are refused otherwise, too.
func TestParseOfLongTexts(t *testing.T) {
	for _, part := range []string{"a", ".", "a.", "%61", "%", "é", "\xff", "1", "1.", "[", "]", ":", " ", "\x00", "xn--", "%2e"} {
		s := strings.Repeat(part, api.MaxText)
		wantRefused(t, s[:api.MaxText])
		wantTooLong(t, s[:api.MaxText]+"a")
		wantTooLong(t, s[:api.MaxText]+".")
		wantTooLong(t, s+s)
	}
	inner := strings.Repeat("0", api.MaxText-4) + "::"
	wantRefused(t, "["+inner+"]")
	wantTooLong(t, "[0"+inner+"]")
	wantTooLong(t, "[0"+inner+" ")
	wantTooLong(t, strings.Repeat(" ", 1<<20))
}

// P5.1: brackets, with and without their end, empty ones, two pairs.
func TestParseOfBrackets(t *testing.T) {
	for s, want := range map[string]string{
		"[::]": "[::]", "[::1]": "[::1]", "[0:0:0:0:0:0:0:1]": "[::1]", "[2001:DB8::0:1]": "[2001:db8::1]", "[1:2:3:4:5:6:7:8]": "[1:2:3:4:5:6:7:8]",
		"[::1.2.3.4]": "[::102:304]", "[1:0:0:2:0:0:0:3]": "[1:0:0:2::3]", "[ABCD:EF01::]": "[abcd:ef01::]", "[0001::0]": "[1::]", "[::FFFF:255.255.255.255]": "[::ffff:ffff:ffff]",
	} {
		wantParse(t, s, want)
		wantRefused(t, s[:len(s)-1])
		wantRefused(t, s[1:])
		wantRefused(t, s[1:len(s)-1])
		wantRefused(t, s+".")
		wantRefused(t, s+" ")
		wantRefused(t, " "+s)
		wantRefused(t, "."+s)
		wantRefused(t, "["+s+"]")
		wantRefused(t, s+s)
		wantRefused(t, s+"]")
		wantRefused(t, "["+s)
		wantRefused(t, "a"+s)
		wantRefused(t, s+".com")
		wantRefused(t, threeSigns(s))
		wantRefused(t, "["+threeSigns(s[1:len(s)-1])+"]")
		wantRefused(t, "%5B"+s[1:])
		wantRefused(t, s[:len(s)-1]+"%5D")
	}
	for _, s := range []string{
		"[", "]", "[]", "[[", "]]", "][", "[[]]", "[][]", "[]]", "[[]", "[.]", "[:]", "[:::]", "[a]", "[1.2.3.4]", "[127.0.0.1]", "[a.b]", "[ ::1]", "[::1 ]", "[::1%251]", "[::1%1]", "[1::2::3]", "[12345::]",
		"[::1\x00]", "[\xff]", "[é]", "[::1]:80", "[::1]/", "[::1][", "[::1][]", "[][::1]", "[::%31]", "[:%3a1]", "[1:2:3:4:5:6:7]", "[1:2:3:4:5:6:7:8:9]",
	} {
		wantRefused(t, s)
	}
}

// P5.1: a last part that is empty, the point alone, a part that is empty between others.
func TestParseOfPoints(t *testing.T) {
	for s, want := range map[string]string{
		"a": "a", "a.": "a", "a.b": "a.b", "a.b.": "a.b", "a.b.c.d.e.f.": "a.b.c.d.e.f", "1.2.3.4.": "1.2.3.4", "0x7f.1.": "127.0.0.1", "é.": "xn--9ca",
		"a%2e": "a", "a%2E.": "", "a.%2e": "", "%61%2e%62%2E": "a.b", "a%2eb%2e": "a.b", "1%2e2.3%2E4": "1.2.3.4",
	} {
		if want == "" {
			wantRefused(t, s)
		} else {
			wantParse(t, s, want)
		}
	}
	for _, s := range []string{
		"", ".", "..", "...", "%2e", "%2e%2e", ".%2e", "%2e.", ".a", "..a", "a..", "a...", "a..b", "a...b", ".a.", ".a.b", "a.b..", "a..b.", "a.b..c.", "a%2e%2eb", "a.%2eb", "%2ea",
		".1", "1..2", "1..", "1.2.3.4..", ".1.2.3.4", "1..3.4", ".xn--9ca", "é..é",
	} {
		wantRefused(t, s)
	}
}

// P5.1: each byte, as it is written and as it is told by '%', alone, at each end of a part, and between others.
func TestParseOfEveryByte(t *testing.T) {
	for i := range 256 {
		c := byte(i)
		want := strings.ToLower(oneByte(c))
		for _, around := range [][2]string{{"x", "x"}, {"x", ""}, {"x.", "y"}, {"x", ".x"}, {"x.x", "x.x"}, {"-", "-"}} {
			plain, told := around[0]+oneByte(c)+around[1], around[0]+threeSigns(oneByte(c))+around[1]
			switch {
			case isForeign(c), c > 127:
				wantRefused(t, plain)
				wantRefused(t, told)
			case c != '.':
				wantParse(t, plain, around[0]+want+around[1])
				wantParse(t, told, around[0]+want+around[1])
			}
		}
		wantedAlone := !isForeign(c) && c <= 127 && c != '.' && (c < '0' || c > '9')
		for _, s := range []string{oneByte(c), threeSigns(oneByte(c))} {
			if wantedAlone {
				wantParse(t, s, want)
			} else if c < '0' || c > '9' {
				wantRefused(t, s)
			} else {
				wantParse(t, s, "0.0.0."+oneByte(c))
			}
		}
	}
	wantParse(t, "x.x", "x.x")
	wantParse(t, "x%2ex", "x.x")
}

// P5.1: how many bytes no name has, so that a slip in isForeign would show.
func TestParseRefusesSoManyBytes(t *testing.T) {
	refused := 0
	for c := range 128 {
		if _, err := hosts.Parse("x" + oneByte(byte(c)) + "x"); err != api.OK {
			refused++
		}
	}
	if refused != 33+1+13 {
		t.Errorf("%d bytes below 128 are refused", refused)
	}
}

// P5.1: a byte that no name has, beside a sign above 127: it stands in the part's few letters.
func TestParseOfForeignBytesInFewLetters(t *testing.T) {
	for i := range 128 {
		c := oneByte(byte(i))
		few, err := puny.Encode("é" + c)
		if err != api.OK || c == "." {
			continue
		}
		for _, s := range []string{"é" + c, "é" + threeSigns(c), "xn--" + threeSigns(few), "a.é" + threeSigns(c) + ".b", c + "é.com"} {
			if isForeign(byte(i)) {
				wantRefused(t, s)
			}
		}
		if !isForeign(byte(i)) {
			few, _ = puny.Encode("é" + strings.ToLower(c))
			wantParse(t, "é"+c, "xn--"+few)
			wantParse(t, "é"+threeSigns(c), "xn--"+few)
		}
	}
}

// P5.1: three signs are decoded once, and the text only where they are three.
func TestParseOfPercentSigns(t *testing.T) {
	for s, want := range map[string]string{
		"%61": "a", "%41": "a", "%5a%5A": "zz", "%78n--9ca": "xn--9ca", "x%6e--9ca": "xn--9ca", "%C3%A9": "xn--9ca", "%c3%a9.%C3%A9": "xn--9ca.xn--9ca", "%e2%98%83": "xn--n3h", "%31.2.3.%34": "1.2.3.4", "%30x7f.1": "127.0.0.1", "a%2dB": "a-b",
	} {
		wantParse(t, s, want)
	}
	for _, s := range []string{
		"%", "%%", "%%%", "a%", "%4", "a%4", "%g1", "%1g", "% 41", "%%41", "%.", "%.41", "%4.1", "a.%", "%25", "a%25b", "%2541", "%252e", "a%25", "%2525", "1.2.3.4%", "%+41", "%é",
		"%C3", "%A9", "%C3.%A9", "%ff", "%80", "%c0%80", "%c3%28", "%ed%a0%80", "%f4%90%80%80", "%00", "%20", "%7f", "a%3ab", "a%2fb", "a%40b", "a%0ab", "%5b::1%5d", "[%3a%3a]",
	} {
		wantRefused(t, s)
	}
}

// P5.1: great letters, signs above 127, and their few letters.
func TestParseOfLetters(t *testing.T) {
	for s, want := range map[string]string{
		"A": "a", "WWW.Example.Com": "www.example.com", "ABCDEFGHIJKLMNOPQRSTUVWXYZ": "abcdefghijklmnopqrstuvwxyz", "a1-Z_9.X": "a1-z_9.x",
		"é": "xn--9ca", "bücher": "xn--bcher-kva", "BüCHER.DE": "xn--bcher-kva.de", "bÜcher": "xn--bcher-2pa", "BÜCHER": "xn--bcher-2pa", "faß.de": "xn--fa-hia.de", "例え": "xn--r8jz45g", "日本語.jp": "xn--wgv71a119e.jp", "☃.☃": "xn--n3h.xn--n3h",
		"xn--bcher-kva": "xn--bcher-kva", "XN--BCHER-KVA.de": "xn--bcher-kva.de", "xn--bcher-KVA": "xn--bcher-kva", "a.Xn--9CA.b": "a.xn--9ca.b", "xn--é": "xn--xn---epa", "xn--xn---epa": "xn--xn---epa", "xn-.a": "xn-.a", "axn--k": "axn--k",
		"。": "xn--r6j", "a。b": "xn--ab-r13a", "１": "xn--8g7c", "\U0010ffff": "xn--dn32g", "a\u00ad": "xn--a-vca", "!$&'()*+,;=`{}~\"": "!$&'()*+,;=`{}~\"",
	} {
		wantParse(t, s, want)
		wantParse(t, s+".", want)
		wantParse(t, threeSigns(s), want)
		wantParse(t, "y."+s+".Z", "y."+want+".z")
	}
	for _, s := range []string{
		"xn--", "xn--k", "xn--abc-", "XN--", "xn--z", "xn---", "xn--zz--", "xn--bcher-kva-", "xn--99999999", "xn--k.b", "a.xn--", "xn--.a", "xn--www-", "%78%6e--",
		"\xff", "\x80", "é\xff", "\xc3", "\xa9\xc3", "\xc3.\xa9", "\xed\xa0\x80", "\xf4\x90\x80\x80", "\xc0\xae", "a.\xe2\x98", "a\xf0.b",
	} {
		wantRefused(t, s)
		wantRefused(t, s+".")
		wantRefused(t, threeSigns(s))
		wantRefused(t, "y."+s+".z")
	}
}

// P5.1: MaxLabel bytes of a part, and one more.
func TestParseOfLongParts(t *testing.T) {
	most := strings.Repeat("A", 63)
	for _, around := range [][2]string{{"", ""}, {"", "."}, {"b.", ""}, {"", ".b"}, {"b.", ".b."}} {
		want := strings.TrimSuffix(around[0]+strings.ToLower(most)+around[1], ".")
		wantParse(t, around[0]+most+around[1], want)
		wantParse(t, around[0]+threeSigns(most)+around[1], want)
		wantRefused(t, around[0]+most+"a"+around[1])
		wantRefused(t, around[0]+most+"%61"+around[1])
	}
	wantParse(t, strings.Repeat("ü", 57), "xn--tda"+strings.Repeat("a", 56))
	wantRefused(t, strings.Repeat("ü", 58))
	wantParse(t, strings.Repeat("0", 62)+"7", "0.0.0.7")
	wantRefused(t, strings.Repeat("0", 63)+"7")
}

// P5.1: MaxHost bytes of a name, and one more: they are counted of the name, not of the text.
func TestParseOfLongNames(t *testing.T) {
	for length := 245; length <= 260; length++ {
		if length == 256 {
			continue // its last part is empty
		}
		name := longName(length)
		for _, s := range []string{name, name + ".", strings.ToUpper(name), threeSigns(name), threeSigns(name + ".")} {
			if length <= 253 {
				wantParse(t, s, name)
			} else {
				wantRefused(t, s)
			}
		}
	}
	short := strings.Repeat("ab.", 84)
	wantParse(t, short+"c", short+"c")
	wantRefused(t, short+"cd")
	few := strings.Repeat("é.", 31) // 8 bytes each, as few letters
	few8 := strings.Repeat("xn--9ca.", 31)
	wantParse(t, few+"abcde", few8+"abcde")
	wantRefused(t, few+"abcdef")
	wantRefused(t, strings.Repeat("é", 250)+".a")
	noughts := strings.Repeat("0", 63)
	wantParse(t, strings.Join([]string{noughts, noughts, noughts, noughts[:61]}, "."), "0.0.0.0")
	wantRefused(t, strings.Join([]string{noughts, noughts, noughts, noughts[:62]}, "."))
}

// P5.1: texts that look like four bytes, and are read.
func TestParseOfFourBytes(t *testing.T) {
	for s, want := range map[string]string{
		"1.2.3.4": "1.2.3.4", "1.2.3.4.": "1.2.3.4", "0": "0.0.0.0", "1": "0.0.0.1", "1.": "0.0.0.1", "256": "0.0.1.0", "4294967295": "255.255.255.255", "0xffffffff": "255.255.255.255", "0XFF.0Xff": "255.0.0.255",
		"0x": "0.0.0.0", "0X": "0.0.0.0", "0x.0x": "0.0.0.0", "017700000001": "127.0.0.1", "0177.0.0.01": "127.0.0.1", "127.1": "127.0.0.1", "1.2.772": "1.2.3.4", "255.255.255.255": "255.255.255.255", "255.16777215": "255.255.255.255",
		"%31%32.%33": "12.0.0.3", "1%2e2%2e3%2e4": "1.2.3.4", "0%58a": "0.0.0.10",
	} {
		wantParse(t, s, want)
	}
	for _, s := range []string{
		"1.2.3.4.5", "1.2.3.256", "256.1", "1..2", "08", "09", "4294967296", "0x100000000", "a.1", "a.0x", "a.0x1", "a.08", "example.com.1", "1.2.3.08", "a.b.c.d.1", "1.2.3.4.5.", "é.1", "-1.1", "１.2.3.4", "xn--9ca.1",
		"99999999999999999999", "1.16777216", "1.2.65536", "0xg.1", "a.%31", "a%2e1", "+1.1",
	} {
		wantRefused(t, s)
	}
	for _, s := range []string{"1.2.3.a", "0xg", "0x.g", "1.2.3.4.a", "256.a", "1a", "a1", "08a", "a.1a", "x1", "0x0x1", "-1", "1-", "1.2.3.4-", "1_0", "+1"} {
		wantParse(t, s, s)
		wantParse(t, s+".", s)
	}
	wantParse(t, "1.2.3.４", "1.2.3.xn--ch7c")
}

// P5.1: the wrong inputs.
func TestParseOfWhatMayNotBe(t *testing.T) {
	for _, s := range []string{
		":", "::", "a:80", "1.2.3.4:80", ":80", "::1", "1:2:3:4:5:6:7:8", "a/b", "/", "//a", "http://a", "a?b", "a#b", "u@a", "@", "a\\b", "<a>", "a^b", "a|b", "\x00", "a\x00", "a\n", "\ta", " a", "a ", " ", "a\x7f", "\x7f", "[a", "a]", "a[b]c",
	} {
		wantRefused(t, s)
	}
}

// P5.1
func TestParseIsByTheWords(t *testing.T) {
	var seen [4]int
	for _, s := range nearlyHosts() {
		got, err := hosts.Parse(s)
		want, told := parseByWords(s)
		if got != want || err != told {
			t.Fatalf("Parse(%q): %q, %d, not %q, %d", s, got, err, want, told)
		}
		switch {
		case told != api.OK:
			seen[0]++
		case want[0] == '[':
			seen[1]++
		case machineByWords(want):
			seen[2]++
		default:
			seen[3]++
		}
	}
	if slices.Min(seen[:]) < 500 {
		t.Errorf("of one kind there are too few texts: %v", seen)
	}
}

// P5.2: both kinds of machine, what looks like four bytes and is none, and names.
func TestMachine(t *testing.T) {
	for _, s := range []string{
		"1.2.3.4", "1.2.3.4.", "0.0.0.0", "255.255.255.255", "1", "0", "0x7f.1", "0X7F.1", "0x", "017700000001", "4294967295", "1.2", "1.2.3",
		"[::1]", "[::]", "[1:2:3:4:5:6:7:8]", "[", "[]", "[::1", "[a.b", "[a]", "[[", "[\xff", "[.", "[1.2.3.256", "[a.1", "[::1].a", "[1.2.3.4",
	} {
		wantMachine(t, s, true)
	}
	for _, s := range []string{
		"", ".", "..", "a", "a.b", "a.b.", "localhost", "é", "xn--9ca", "1a", "a1", "1.a", "0xg", "1.2.3.4.a",
		"a.1", "1.2.3.256", "256.1", "1.2.3.4.5", "1..2", "08", "1.08", "4294967296", ".1", "a.0x", "1.2.3.4..",
		"]", "::1]", "::1", ":", "1:2:3:4:5:6:7:8", " [::1]", "a[", "%5b::1]", " 1.2.3.4", "1.2.3.4 ", "%31", "1.2.3.4:80", "\xff", "\x00", "(::1)", "{", "１",
	} {
		wantMachine(t, s, false)
	}
}

// P5.2
func TestMachineIsByTheWords(t *testing.T) {
	for _, s := range nearlyHosts() {
		wantMachine(t, s, machineByWords(s))
	}
	for i := range 256 {
		for _, s := range []string{oneByte(byte(i)), oneByte(byte(i)) + "a", oneByte(byte(i)) + "::1]", "1" + oneByte(byte(i)), "1." + oneByte(byte(i))} {
			wantMachine(t, s, machineByWords(s))
		}
	}
}

// P5.3: the chapter's examples.
func TestLabelsAndBelowOfTheExamples(t *testing.T) {
	wantLabels(t, "a.b.c", "a", "b", "c")
	wantLabels(t, "1.2.3.4", "1.2.3.4")
	wantLabels(t, "")
	wantBelow(t, "a.b.c", "b.c", true)
	wantBelow(t, "b.c", "b.c", true)
	wantBelow(t, "ab.c", "b.c", false)
	wantBelow(t, "1.2.3.4", "3.4", false)
	wantBelow(t, "a.", "", false)
}

// P5.3: machines, names of one part and of several, points at the ends and beside each other.
func TestLabels(t *testing.T) {
	for _, s := range []string{"[::1]", "[1:2:3:4:5:6:7:8]", "[::1.2.3.4]", "[a.b", "[", "[.]", "1", "0x7f.1", "1.2.3.4.", "0x", "127.1", "255.255.255.255"} {
		wantLabels(t, s, s)
	}
	for _, s := range []string{"a", "localhost", "xn--9ca", "é", "\xff", " ", "a b", "%2e", "08", "4294967296", "A", "]"} {
		wantLabels(t, s, s)
		wantLabels(t, s+".b", s, "b")
		wantLabels(t, "b."+s+".c.d", "b", s, "c", "d")
		wantLabels(t, s+".", s, "")
		wantLabels(t, "."+s, "", s)
	}
	wantLabels(t, ".", "", "")
	wantLabels(t, "..", "", "", "")
	wantLabels(t, "a..b", "a", "", "b")
	wantLabels(t, "a.b.", "a", "b", "")
	wantLabels(t, "a.b..", "a", "b", "", "")
	wantLabels(t, " a . b ", " a ", " b ")
	wantLabels(t, "A.b.C", "A", "b", "C")
	wantLabels(t, "a.1", "a", "1")
	wantLabels(t, "1.2.3.256", "1", "2", "3", "256")
	wantLabels(t, "1.2.3.4.5", "1", "2", "3", "4", "5")
	wantLabels(t, "1..2", "1", "", "2")
	wantLabels(t, "1.2.3.4.a", "1", "2", "3", "4", "a")
	wantLabels(t, "a[.b]", "a[", "b]")
}

// P5.3: what stands between the points makes the text again.
func TestLabelsOfWhatIsNoMachine(t *testing.T) {
	for _, s := range nearlyHosts() {
		switch {
		case s == "":
			wantLabels(t, s)
		case machineByWords(s):
			wantLabels(t, s, s)
		default:
			wantLabels(t, s, strings.Split(s, ".")...)
		}
	}
}

// R4: an answer is new memory, its spare room too.
func TestLabelsAreNewMemory(t *testing.T) {
	for _, s := range []string{"a.b.c", "a", "1.2.3.4", "[::1]", ""} {
		first, second := hosts.Labels(s), hosts.Labels(s)
		want := slices.Clone(second)
		for i := range first[:cap(first)] {
			first[:cap(first)][i] = "other"
		}
		if !slices.Equal(second, want) {
			t.Errorf("Labels(%q): %q, behind a change of another answer", s, second)
		}
		wantLabels(t, s, want...)
	}
}

// P5.3: the same text, a text below another, one that ends with the other with no point between, an empty other, machines on either side.
func TestBelow(t *testing.T) {
	for _, s := range []string{"", ".", "a", "a.b", "a.", "1.2.3.4", "[::1]", "[", "\xff", "a..b", "08"} {
		wantBelow(t, s, s, true)
	}
	for _, c := range [][2]string{
		{"a.b", "b"}, {"a.b.c", "c"}, {"a.b.c.d", "c.d"}, {"x.xn--9ca", "xn--9ca"}, {".b", "b"}, {"..b", "b"}, {"..b", ".b"}, {"a..b", "b"}, {"a..b", ".b"}, {"a.b.", "b."}, {"..", "."}, {"a..", "."}, {"a...", ".."},
		{"\xff.\xfe", "\xfe"}, {"1.2.3.4.a", "4.a"}, {"1.2.3.4.a", "a"}, {"1.a", "a"}, {"x.08", "08"}, {"1.256.1", "256.1"}, {"1.2.3.4.5.6", "2.3.4.5.6"},
	} {
		wantBelow(t, c[0], c[1], true)
		wantBelow(t, c[1], c[0], false)
	}
	for _, c := range [][2]string{
		{"ab.c", "b.c"}, {"ab", "b"}, {"bb", "b"}, {"xexample.com", "example.com"}, {"a-b", "b"}, {"a%2eb", "b"}, {"a.b", "a"}, {"a.b.c", "a.b"}, {"a.b", "c"}, {"a.B", "b"}, {"a.b", "B"}, {"a.b.", "b"}, {"a.b", "b."}, {"a.b", ".b"}, {"A", "a"}, {"bxa.b", "b.a"},
		{"a", ""}, {"a.", ""}, {".", ""}, {"..", ""}, {"1.2.3.4", ""}, {"[::1]", ""}, {"", "a"}, {"", "."}, {"", "1.2.3.4"}, {"a.b", "a.a.b"},
		{"1.2.3.4", "3.4"}, {"1.2.3.4", "2.3.4"}, {"1.2.3.4", "4"}, {"1.2.3.4.", "3.4."}, {"0.1.2.3.4", "1.2.3.4"}, {"a.1.2.3.4", "1.2.3.4"}, {"a.1", "1"}, {"a.0x7f", "0x7f"}, {"a.4.", "4."},
		{"[a.b", "b"}, {"[::1].b", "b"}, {"[.[::1]", "[::1]"}, {"a.[::1]", "[::1]"}, {"a.[", "["}, {"[a.b]", "b]"}, {"1.2.3.4", "1.2.3.4."}, {"1.2.3.4.", "1.2.3.4"}, {"127.1", "127.0.0.1"}, {"[::1]", "[::0:1]"}, {"[::1]", "::1]"},
	} {
		wantBelow(t, c[0], c[1], false)
	}
}

// P5.3
func TestBelowIsByTheWords(t *testing.T) {
	pieces := []string{".", ".", ".", "a", "b", "ab", "1", "2", "256", "0x", "["}
	below := 0
	r := rand.New(rand.NewSource(6))
	for _, other := range someTexts(5, 40000, 4, pieces) {
		host := other
		for range r.Intn(4) {
			host = pieces[r.Intn(len(pieces))] + host
		}
		if r.Intn(8) == 0 {
			host += pieces[r.Intn(len(pieces))]
		}
		want := belowByWords(host, other)
		if want && host != other {
			below++
		}
		wantBelow(t, host, other, want)
		wantBelow(t, other, host, belowByWords(other, host))
	}
	if below < 1000 {
		t.Errorf("only %d texts were below another", below)
	}
}

// P5.4
func TestWhatIsAnsweredIsAnsweredAgain(t *testing.T) {
	for _, s := range append(nearlyHosts(), longName(253), strings.Repeat("ü", 57), "BüCHER.DE.", "xn--xn---epa") {
		if host, err := hosts.Parse(s); err == api.OK {
			wantParse(t, host, host)
			if host[0] != '[' && !strings.HasSuffix(host, "]") {
				wantParse(t, host+".", host)
				wantParse(t, strings.ToUpper(host), host)
				wantParse(t, threeSigns(host), host)
			}
		}
	}
}

// P5.4
func TestHostIsBelowItsLastLabels(t *testing.T) {
	names := 0
	for _, s := range nearlyHosts() {
		host, err := hosts.Parse(s)
		if err != api.OK {
			continue
		}
		labels := hosts.Labels(host)
		if strings.Join(labels, ".") != host {
			t.Errorf("Labels(%q): %q", host, labels)
		}
		for i := range labels {
			last := strings.Join(labels[i:], ".")
			wantBelow(t, host, last, true)
			wantBelow(t, "x"+host, last, i > 0)
			wantBelow(t, last, host, i == 0)
		}
		if len(labels) > 1 {
			names++
		}
	}
	if names < 1000 {
		t.Errorf("only %d names had parts", names)
	}
}

// R1: long texts and any bytes end, too.
func TestLongTexts(t *testing.T) {
	const long = 1 << 20
	wantMachine(t, strings.Repeat("1.", long), false)
	wantMachine(t, strings.Repeat("0", long), true)
	wantMachine(t, "["+strings.Repeat(".", long), true)
	wantLabels(t, strings.Repeat(".", long), make([]string, long+1)...)
	wantLabels(t, strings.Repeat("0", long), strings.Repeat("0", long))
	name := strings.Repeat("a.", long) + "a"
	wantBelow(t, "a."+name, name, true)
	wantBelow(t, "a"+name, name, false)
	wantBelow(t, name, strings.Repeat("a", long), false)
	wantBelow(t, strings.Repeat(".", long), strings.Repeat(".", long-1), true)
}
