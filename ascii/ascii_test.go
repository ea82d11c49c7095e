package ascii_test

import (
	"math"
	"math/rand"
	"slices"
	"strings"
	"testing"

	"footman/ascii"
)

const (
	great   = "ABCDEFGHIJKLMNOPQRSTUVWXYZ"
	small   = "abcdefghijklmnopqrstuvwxyz"
	digits  = "0123456789"
	signs   = "!#$%&'*+-.^_|~\x60"
	inToken = great + small + digits + signs
)

// everyByte is a text of each byte once, so that no byte is left out of a check.
func everyByte() string {
	var b [256]byte
	for i := range b {
		b[i] = byte(i)
	}
	return string(b[:])
}

// someTexts are made from a fixed seed, of few bytes, so that blanks, parts and letters meet often.
func someTexts() []string {
	r := rand.New(rand.NewSource(1))
	texts := []string{"", everyByte()}
	for range 2000 {
		b := make([]byte, r.Intn(12))
		for i := range b {
			b[i] = " \t;,aZ0\n\xc3\xff\x00"[r.Intn(11)]
		}
		texts = append(texts, string(b))
	}
	return texts
}

// P1.1
func TestLower(t *testing.T) {
	for _, c := range []struct{ text, want string }{
		{"AbC-é", "abc-é"},
		{"", ""},
		{great, small},
		{small, small},
		{digits + signs, digits + signs},
		{"@[`{", "@[`{"},
		{"É", "É"},
		{"\xc3\xff\x80A", "\xc3\xff\x80a"},
		{"\x00Z\x00", "\x00z\x00"},
	} {
		if got := ascii.Lower(c.text); got != c.want {
			t.Errorf("Lower(%q): %q, not %q", c.text, got, c.want)
		}
	}
}

// P1.1
func TestLowerOfEveryByte(t *testing.T) {
	for i := range 256 {
		c := string([]byte{byte(i)})
		want := c
		if place := strings.IndexByte(great, byte(i)); place >= 0 {
			want = small[place : place+1]
		}
		if got := ascii.Lower(c); got != want {
			t.Errorf("Lower(%q): %q, not %q", c, got, want)
		}
	}
}

// P1.1
func TestSame(t *testing.T) {
	for _, c := range []struct {
		a, b string
		want bool
	}{
		{"Host", "hOST", true},
		{"", "", true},
		{great, small, true},
		{"é-A", "é-a", true},
		{"a", "b", false},
		{"É", "é", false},
		{"a", "ab", false},
		{"ab", "a", false},
		{"", "a", false},
		{"a", "a ", false},
		{"@", "`", false},
		{"[", "{", false},
		{"\xc3", "\xe3", false},
	} {
		if got := ascii.Same(c.a, c.b); got != c.want {
			t.Errorf("Same(%q, %q): %v", c.a, c.b, got)
		}
	}
}

// P1.1
func TestSameIsOfLower(t *testing.T) {
	texts := someTexts()[:200]
	for _, a := range texts {
		for _, b := range texts {
			if want := ascii.Lower(a) == ascii.Lower(b); ascii.Same(a, b) != want {
				t.Fatalf("Same(%q, %q): not %v", a, b, want)
			}
		}
	}
}

// P1.2
func TestToken(t *testing.T) {
	for text, want := range map[string]bool{
		"Set-Cookie": true,
		"!~":         true,
		inToken:      true,
		"":           false,
		"a b":        false,
		"a:":         false,
		":a":         false,
		"a:b":        false,
		" a":         false,
		"a\t":        false,
		"a\x00":      false,
		"é":          false,
		"a\xff":      false,
	} {
		if ascii.Token(text) != want {
			t.Errorf("Token(%q): not %v", text, want)
		}
	}
}

// P1.2: each byte alone, ahead of a good one and behind it.
func TestTokenOfEveryByte(t *testing.T) {
	for i := range 256 {
		c := string([]byte{byte(i)})
		want := strings.IndexByte(inToken, byte(i)) >= 0
		for _, text := range []string{c, c + "a", "a" + c} {
			if ascii.Token(text) != want {
				t.Errorf("Token(%q): not %v", text, want)
			}
		}
	}
}

// P1.3
func TestTrim(t *testing.T) {
	for _, c := range []struct{ text, want string }{
		{" a b\t", "a b"},
		{"", ""},
		{" ", ""},
		{" \t \t", ""},
		{"a", "a"},
		{"\t\t a", "a"},
		{"a \t ", "a"},
		{"a \t b", "a \t b"},
		{"\n a", "\n a"},
		{"a \r", "a \r"},
		{" \u00a0 ", "\u00a0"},
		{" \xff ", "\xff"},
		{" \x00 ", "\x00"},
	} {
		if got := ascii.Trim(c.text); got != c.want {
			t.Errorf("Trim(%q): %q, not %q", c.text, got, c.want)
		}
	}
}

// P1.3
func TestTrimOfEveryByte(t *testing.T) {
	for i := range 256 {
		c := string([]byte{byte(i)})
		want := c + "a" + c
		if i == 32 || i == 9 {
			want = "a"
		}
		if got := ascii.Trim(c + "a" + c); got != want {
			t.Errorf("Trim(%q): %q, not %q", c+"a"+c, got, want)
		}
	}
}

// P1.3
func TestSplit(t *testing.T) {
	for _, c := range []struct {
		text string
		at   byte
		want []string
	}{
		{"a; b ;;", ';', []string{"a", "b", "", ""}},
		{"", ';', []string{""}},
		{" \t", ';', []string{""}},
		{" a b ", ';', []string{"a b"}},
		{";", ';', []string{"", ""}},
		{";a", ';', []string{"", "a"}},
		{"b,a;c", ';', []string{"b,a", "c"}},
		{" c = d ; e ", ';', []string{"c = d", "e"}},
		{"a  b", ' ', []string{"a", "", "b"}},
		{" a\tb ", ' ', []string{"", "a\tb", ""}},
		{"a\t\tb", '\t', []string{"a", "", "b"}},
		{"a\x00b", 0, []string{"a", "b"}},
		{"a\xffb \xff", 0xff, []string{"a", "b", ""}},
		{"ÿ", 0xff, []string{"ÿ"}},
		{"é", 0xa9, []string{"\xc3", ""}},
		{"é", 0xc3, []string{"", "\xa9"}},
	} {
		if got := ascii.Split(c.text, c.at); !slices.Equal(got, c.want) {
			t.Errorf("Split(%q, %q): %q, not %q", c.text, c.at, got, c.want)
		}
	}
}

// P1.3
func TestSplitAtEveryByte(t *testing.T) {
	for i := range 256 {
		c := string([]byte{byte(i)})
		if i == 'x' || i == 'y' {
			continue
		}
		if got := ascii.Split("x"+c+"y", byte(i)); !slices.Equal(got, []string{"x", "y"}) {
			t.Errorf("Split at %q: %q", c, got)
		}
	}
}

// R4: an answer shares nothing with another, its spare room neither.
func TestSplitAnswersNewLists(t *testing.T) {
	text := "a;b;c"
	first := ascii.Split(text, ';')
	second := ascii.Split(text, ';')
	for i := range first[:cap(first)] {
		first[:cap(first)][i] = "changed"
	}
	want := []string{"a", "b", "c"}
	if !slices.Equal(second, want) || !slices.Equal(ascii.Split(text, ';'), want) {
		t.Errorf("an answer changed with another: %q", second)
	}
}

// P1.4
func TestNumber(t *testing.T) {
	const nines = 999999999999999999
	for _, c := range []struct {
		text string
		most int
		want int
	}{
		{"0", 0, 0},
		{"0", 9, 0},
		{"9", 9, 9},
		{"007", 9, 7},
		{"1234567890", math.MaxInt, 1234567890},
		{"000000000000000000", 0, 0},
		{"000000000000000009", 9, 9},
		{"100000000000000000", math.MaxInt, 100000000000000000},
		{"999999999999999999", nines, nines},
		{"999999999999999999", math.MaxInt, nines},
	} {
		if got, ok := ascii.Number(c.text, c.most); got != c.want || !ok {
			t.Errorf("Number(%q, %d): %d, %v", c.text, c.most, got, ok)
		}
	}
}

// P1.4
func TestNumberThatIsNone(t *testing.T) {
	for _, c := range []struct {
		text string
		most int
	}{
		{"10", 9},
		{"999999999999999999", 999999999999999998},
		{"", 9},
		{"", -1},
		{"+1", 9},
		{"-1", 9},
		{" 1", 9},
		{"1 ", 9},
		{"1_0", 99},
		{"1.0", 99},
		{"0x1", 99},
		{"1e1", 99},
		{"1x", 9},
		{"/", 99},
		{":", 99},
		{"1\x00", 9},
		{"٣", 9},
		{"\xff", math.MaxInt},
		{"0", -1},
		{"1", -1},
		{"1", math.MinInt},
		{"0000000000000000000", 9},
		{"0000000000000000001", math.MaxInt},
		{"1000000000000000000", math.MaxInt},
		{"9223372036854775808", math.MaxInt},
		{strings.Repeat("1", 70000), math.MaxInt},
	} {
		if got, ok := ascii.Number(c.text, c.most); got != 0 || ok {
			t.Errorf("Number(%.30q, %d): %d, %v", c.text, c.most, got, ok)
		}
	}
}

// P1.4: one byte is a number if it is a digit.
func TestNumberOfEveryByte(t *testing.T) {
	for i := range 256 {
		place := strings.IndexByte(digits, byte(i))
		got, ok := ascii.Number(string([]byte{byte(i)}), 9)
		if ok != (place >= 0) || got != max(place, 0) {
			t.Errorf("Number of byte %d: %d, %v", i, got, ok)
		}
	}
}

// P1.5
func TestTwiceIsAsOnce(t *testing.T) {
	for _, text := range someTexts() {
		if once := ascii.Lower(text); ascii.Lower(once) != once || len(once) != len(text) {
			t.Errorf("Lower of Lower(%q) is not as once", text)
		}
		if once := ascii.Trim(text); ascii.Trim(once) != once {
			t.Errorf("Trim of Trim(%q) is not as once", text)
		}
	}
}

// P1.5, P1.3: one part more than such bytes, and each part is trimmed.
func TestPartsAreOneMoreThanBytesBetween(t *testing.T) {
	for _, text := range someTexts() {
		for _, at := range []byte{';', ',', ' ', '\t', 'a', 0, 0xff, 0xc3, '=', 0x80} {
			between := 0
			for i := range len(text) {
				if text[i] == at {
					between++
				}
			}
			parts := ascii.Split(text, at)
			if len(parts) != between+1 {
				t.Errorf("Split(%q, %q): %d parts", text, at, len(parts))
			}
			for _, part := range parts {
				if ascii.Trim(part) != part {
					t.Errorf("Split(%q, %q): a part %q", text, at, part)
				}
			}
		}
	}
}
