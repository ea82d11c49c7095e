package percent_test

import (
	"math/rand"
	"strconv"
	"strings"
	"testing"

	"footman/api"
	"footman/percent"
)

// allSets are those of the chapter's table, SetNone too.
func allSets() []api.Set {
	return []api.Set{api.SetNone, api.SetControl, api.SetFragment, api.SetQuery, api.SetPath, api.SetUser}
}

// signsOf are the bytes from 32 to 126 that the chapter's table has for a set, each row written out whole.
func signsOf(set api.Set) string {
	switch set {
	case api.SetFragment:
		return "\x20\"<>\x60"
	case api.SetQuery:
		return "\x20\"#<>'"
	case api.SetPath:
		return "\x20\"#<>?^{}\x60"
	case api.SetUser:
		return "\x20\"#<>?^{}\x60/:;=@[\\]|"
	}
	return ""
}

// inSet: does the chapter's table have the byte in the set?
func inSet(set api.Set, c byte) bool {
	if set == api.SetNone || set > api.SetUser {
		return false
	}
	return c < 32 || c > 126 || strings.IndexByte(signsOf(set), c) >= 0
}

func oneByte(c byte) string { return string([]byte{c}) }

// threeSigns writes a byte as the chapter's words have it, by the library.
func threeSigns(c byte) string {
	two := strings.ToUpper(strconv.FormatUint(uint64(c), 16))
	return "%" + strings.Repeat("0", 2-len(two)) + two
}

// decodedByWords reads three signs by the library, from the first byte on.
func decodedByWords(s string) string {
	const hexadecimal = "0123456789abcdefABCDEF"
	out := ""
	for i := 0; i < len(s); i++ {
		if s[i] == '%' && i+2 < len(s) && strings.Trim(s[i+1:i+3], hexadecimal) == "" {
			n, _ := strconv.ParseUint(s[i+1:i+3], 16, 8)
			out += oneByte(byte(n))
			i += 2
		} else {
			out += s[i : i+1]
		}
	}
	return out
}

// someTexts are made from a fixed seed: of few bytes, so that percent signs and digits meet often, and of any.
func someTexts() []string {
	const few = "%%%0249aAfFgG +x\x00\x7f\xc3"
	r := rand.New(rand.NewSource(3))
	texts := []string{"", "a", "%", "é", "\xff"}
	for i := range 6000 {
		b := make([]byte, r.Intn(14))
		for k := range b {
			b[k] = byte(r.Intn(256))
			if i%2 == 0 {
				b[k] = few[r.Intn(len(few))]
			}
		}
		texts = append(texts, string(b))
	}
	return texts
}

// P3.1: each number that a set may have, at each byte.
func TestHasAtEveryByte(t *testing.T) {
	for set := range 256 {
		for c := range 256 {
			want := inSet(api.Set(set), byte(c))
			if got := percent.Has(api.Set(set), byte(c)); got != want {
				t.Errorf("Has(%d, %d): %v", set, c, got)
			}
		}
	}
}

// P3.1: how many bytes each row of the table has, so that a slip in signsOf would show.
func TestHasSoManyBytes(t *testing.T) {
	for set, want := range []int{0, 161, 166, 167, 171, 180, 0, 0} {
		got := 0
		for c := range 256 {
			if percent.Has(api.Set(set), byte(c)) {
				got++
			}
		}
		if got != want {
			t.Errorf("set %d has %d bytes, not %d", set, got, want)
		}
	}
}

// P3.1
func TestHasAtTheEdges(t *testing.T) {
	for _, c := range []struct {
		at   byte
		want [6]bool // of each set, in the order of their numbers
	}{
		{0, [6]bool{false, true, true, true, true, true}},
		{31, [6]bool{false, true, true, true, true, true}},
		{32, [6]bool{false, false, true, true, true, true}},
		{33, [6]bool{}},
		{'%', [6]bool{}},
		{'\'', [6]bool{false, false, false, true, false, false}},
		{'#', [6]bool{false, false, false, true, true, true}},
		{96, [6]bool{false, false, true, false, true, true}},
		{'?', [6]bool{false, false, false, false, true, true}},
		{'/', [6]bool{false, false, false, false, false, true}},
		{'|', [6]bool{false, false, false, false, false, true}},
		{126, [6]bool{}},
		{127, [6]bool{false, true, true, true, true, true}},
		{128, [6]bool{false, true, true, true, true, true}},
		{255, [6]bool{false, true, true, true, true, true}},
	} {
		for set, want := range c.want {
			if got := percent.Has(api.Set(set), c.at); got != want {
				t.Errorf("Has(%d, %d): %v", set, c.at, got)
			}
		}
	}
}

// P3.1: the chapter's examples, and others.
func TestEncode(t *testing.T) {
	for _, c := range []struct {
		text string
		set  api.Set
		want string
	}{
		{"a b\"é%", api.SetPath, "a%20b%22%C3%A9%"},
		{"a'b#", api.SetQuery, "a%27b%23"},
		{"a'b#", api.SetFragment, "a'b#"},
		{"u:p@h", api.SetUser, "u%3Ap%40h"},
		{"u:p@h", api.SetPath, "u:p@h"},
		{"a b", api.SetNone, "a b"},

		{"plain-text_0.9~", api.SetUser, "plain-text_0.9~"},
		{"\x1f ~\x7f\x80\xff", api.SetControl, "%1F ~%7F%80%FF"},
		{"\x1f ~\x7f\x80\xff", api.SetFragment, "%1F%20~%7F%80%FF"},
		{"\x00\x0a\xa0\xfa\xaf", api.SetControl, "%00%0A%A0%FA%AF"},
		{"\x00\x1f \x7f\xff", api.SetNone, "\x00\x1f \x7f\xff"},
		{"a b\x00é", 6, "a b\x00é"},
		{"a b\x00é", 255, "a b\x00é"},
		{"a<b>c`d", api.SetFragment, "a%3Cb%3Ec%60d"},
		{"a=b&c=`d`?", api.SetQuery, "a=b&c=`d`?"},
		{"/a;b=c/{d}|?", api.SetPath, "/a;b=c/%7Bd%7D|%3F"},
		{"/:;=@[\\]|", api.SetUser, "%2F%3A%3B%3D%40%5B%5C%5D%7C"},
		{"例", api.SetQuery, "%E4%BE%8B"},
	} {
		if got := percent.Encode(c.text, c.set); got != c.want {
			t.Errorf("Encode(%q, %d): %q, not %q", c.text, c.set, got, c.want)
		}
	}
}

// P3.1
func TestEncodeOfNothing(t *testing.T) {
	for set := range 256 {
		if got := percent.Encode("", api.Set(set)); got != "" {
			t.Errorf("Encode of nothing, by set %d: %q", set, got)
		}
	}
}

// P3.1: each byte, by each number that a set may have, between two others.
func TestEncodeOfEveryByte(t *testing.T) {
	for set := range 256 {
		for c := range 256 {
			want := oneByte(byte(c))
			if inSet(api.Set(set), byte(c)) {
				want = threeSigns(byte(c))
			}
			text := "x" + oneByte(byte(c)) + "y"
			if got := percent.Encode(text, api.Set(set)); got != "x"+want+"y" {
				t.Errorf("Encode(%q, %d): %q", text, set, got)
			}
		}
	}
}

// P3.1: a percent sign is in no set, whatever stands behind it.
func TestEncodeLeavesPercentSigns(t *testing.T) {
	for _, text := range []string{"%", "%%", "%4", "%41", "%zz", "a%20b%"} {
		for _, set := range allSets() {
			if got := percent.Encode(text, set); got != text {
				t.Errorf("Encode(%q, %d): %q", text, set, got)
			}
		}
	}
}

// P3.1: a text is encoded byte by byte, whatever stands beside one.
func TestEncodeGoesByBytes(t *testing.T) {
	for _, text := range someTexts() {
		for _, set := range allSets() {
			want := ""
			for i := range len(text) {
				if percent.Has(set, text[i]) {
					want += threeSigns(text[i])
				} else {
					want += text[i : i+1]
				}
			}
			if got := percent.Encode(text, set); got != want {
				t.Fatalf("Encode(%q, %d): %q, not %q", text, set, got, want)
			}
		}
	}
}

// P3.2: the chapter's examples, and others.
func TestDecode(t *testing.T) {
	for _, c := range []struct{ text, want string }{
		{"%41%7a%C3%a9", "Azé"},
		{"%4", "%4"},
		{"%%41", "%A"},
		{"%g1", "%g1"},

		{"", ""},
		{"plain text", "plain text"},
		{"a+b", "a+b"},
		{"%c3%a9", "é"},
		{"%C3%A9", "é"},
		{"%cA%Ac", "\xca\xac"},
		{"%00%1f%7F%80%ff", "\x00\x1f\x7f\x80\xff"},
		{"%12%21", "\x12\x21"},
		{"\x00\xff%20\xc3", "\x00\xff \xc3"},
		{"a%20b", "a b"},
		{"%2541", "%41"},
		{"%25%34%31", "%41"},
		{"%411", "A1"},
		{"x%41", "xA"},
	} {
		if got := percent.Decode(c.text); got != c.want {
			t.Errorf("Decode(%q): %q, not %q", c.text, got, c.want)
		}
	}
}

// P3.2: what tells no byte stays as it is.
func TestDecodeOfWrongTexts(t *testing.T) {
	for _, text := range []string{
		"%", "a%", "%%", "%%%", "%a", "%A", "%0", "%g", "% ", "x%f",
		"%4g", "%4G", "%g4", "%G4", "%4 ", "% 4", "%4%", "%a%", "%%4", "%+1", "%-1", "%0x", "%x0",
		"%/0", "%:0", "%@0", "%`0", "%0/", "%0:", "%0@", "%0`", "%é1", "%1é", "%\x00\x00", "%\xff\xff",
		"%4\x00", "%u0041", "&#41;", "41",
	} {
		if got := percent.Decode(text); got != text {
			t.Errorf("Decode(%q): %q", text, got)
		}
	}
}

// P3.2: behind a percent sign that tells nothing, the next one may tell a byte.
func TestDecodeBehindWrongSigns(t *testing.T) {
	for _, c := range []struct{ text, want string }{
		{"%%%41", "%%A"},
		{"%4%41", "%4A"},
		{"%g%41", "%gA"},
		{"%4g%41", "%4gA"},
		{"%41%", "A%"},
		{"%41%4", "A%4"},
		{"%%25", "%%"},
	} {
		if got := percent.Decode(c.text); got != c.want {
			t.Errorf("Decode(%q): %q, not %q", c.text, got, c.want)
		}
	}
}

// P3.2: each byte, its digits in small and great letters.
func TestDecodeOfEveryByte(t *testing.T) {
	const small, great = "0123456789abcdef", "0123456789ABCDEF"
	for _, highs := range []string{small, great} {
		for _, lows := range []string{small, great} {
			for c := range 256 {
				text := "%" + highs[c/16:c/16+1] + lows[c%16:c%16+1]
				if got := percent.Decode(text); got != oneByte(byte(c)) {
					t.Errorf("Decode(%q): %q", text, got)
				}
			}
		}
	}
}

// P3.2: each two bytes behind a percent sign.
func TestDecodeOfEveryTwoBytes(t *testing.T) {
	for high := range 256 {
		for low := range 256 {
			text := "%" + oneByte(byte(high)) + oneByte(byte(low))
			if got, want := percent.Decode(text), decodedByWords(text); got != want {
				t.Errorf("Decode(%q): %q, not %q", text, got, want)
			}
		}
	}
}

// P3.2
func TestDecodeIsByTheWords(t *testing.T) {
	for _, text := range someTexts() {
		if got, want := percent.Decode(text), decodedByWords(text); got != want {
			t.Errorf("Decode(%q): %q, not %q", text, got, want)
		}
	}
}

// P3.3
func TestEncodedAgainItStays(t *testing.T) {
	for _, text := range someTexts() {
		for _, set := range allSets() {
			once := percent.Encode(text, set)
			if again := percent.Encode(once, set); again != once {
				t.Errorf("Encode of Encode(%q, %d): %q, not %q", text, set, again, once)
			}
		}
	}
}

// P3.3
func TestTextWithoutPercentSignsIsGotBack(t *testing.T) {
	for _, text := range someTexts() {
		text = strings.ReplaceAll(text, "%", "")
		for _, set := range allSets() {
			if back := percent.Decode(percent.Encode(text, set)); back != text {
				t.Errorf("Decode of Encode(%q, %d): %q", text, set, back)
			}
		}
	}
}

// R1: long texts end, too; P3.3 holds of them.
func TestLongTexts(t *testing.T) {
	text := strings.Repeat("a b\xff'", 1<<18)
	encoded := percent.Encode(text, api.SetQuery)
	if encoded != strings.Repeat("a%20b%FF%27", 1<<18) {
		t.Error("a long text is encoded otherwise than its parts")
	}
	if percent.Decode(encoded) != text {
		t.Error("a long text is not got back")
	}
	signs := strings.Repeat("%", 1<<20)
	if percent.Decode(signs) != signs {
		t.Error("percent signs alone do not stay")
	}
}
