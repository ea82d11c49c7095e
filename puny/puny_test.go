package puny_test

import (
	"math/rand"
	"slices"
	"strings"
	"testing"
	"unicode/utf8"

	"footman/api"
	"footman/ascii"
	"footman/puny"
)

const (
	limit = 65536
	great = 1<<31 - 1
)

// numberDigits tells a number's digits as the chapter's words have it.
func numberDigits(number, bias int) string {
	const letters = "abcdefghijklmnopqrstuvwxyz0123456789"
	var out []byte
	for k := 36; ; k += 36 {
		t := min(max(k-bias, 1), 26)
		if number < t {
			return string(append(out, letters[number]))
		}
		out = append(out, letters[t+(number-t)%(36-t)])
		number = (number - t) / (36 - t)
	}
}

// biasBehind is the next bias as the chapter's words have it.
func biasBehind(number, signs int, first bool) int {
	if first {
		number /= 700
	} else {
		number /= 2
	}
	number += number / signs
	k := 0
	for ; number > 455; k += 36 {
		number /= 35
	}
	return k + 36*number/(number+38)
}

// fewByWords goes through the text once for each sign, as the chapter's words do, and tells the greatest number, too.
func fewByWords(s string) (string, int) {
	var plain string
	var others []rune
	for _, sign := range s {
		if sign < 128 {
			plain += string(sign)
		} else if !slices.Contains(others, sign) {
			others = append(others, sign)
		}
	}
	slices.Sort(others)
	out, told := plain, len(plain)
	if told > 0 {
		out += "-"
	}
	greatest, number, bias, above, first := 0, 0, 72, rune(128), true
	for _, m := range others {
		number += int(m-above) * (told + 1)
		above = m + 1
		for _, sign := range s {
			if sign < m {
				number++
			}
			if sign == m {
				greatest = max(greatest, number)
				out += numberDigits(number, bias)
				bias = biasBehind(number, told+1, first)
				number, first = 0, false
				told++
			}
		}
		number++
	}
	return out, greatest
}

// someTexts are made from a fixed seed, of signs of all lengths that meet often, and of any signs.
func someTexts() []string {
	r := rand.New(rand.NewSource(2))
	few := []rune{'a', 'Z', '-', '0', 0, 127, 128, 0xfc, 0xfd, 0x7ff, 0x800, 55295, 57344, 0xffff, 0x10000, 1114111}
	texts := []string{"", "-", "--", "a", "\u0080"}
	for range 3000 {
		signs := make([]rune, r.Intn(14))
		for i := range signs {
			signs[i] = few[r.Intn(len(few))]
			if r.Intn(4) == 0 {
				signs[i] = rune(r.Intn(55296))
			}
		}
		texts = append(texts, string(signs))
	}
	return texts
}

// someFew are texts of which many are few letters: digits, great and small, and a border here and there.
func someFew() []string {
	r := rand.New(rand.NewSource(3))
	texts := []string{"", "a", "-", "--", "---", "a-", "-a", "--a"}
	for range 20000 {
		b := make([]byte, r.Intn(12))
		for i := range b {
			b[i] = "aabbbcdeghkmtyzABKZ0139--!\xfc"[r.Intn(27)]
		}
		texts = append(texts, string(b))
	}
	return texts
}

// smallDigits is a text with small letters behind its border alone.
func smallDigits(few string) string {
	at := strings.LastIndexByte(few, '-')
	if at <= 0 {
		return ascii.Lower(few)
	}
	return few[:at] + ascii.Lower(few[at:])
}

func wantEncoded(t *testing.T, s, want string) {
	t.Helper()
	if got, err := puny.Encode(s); got != want || err != api.OK {
		t.Errorf("Encode(%.60q): %.60q, %d, not %.60q", s, got, err, want)
	}
}

func wantDecoded(t *testing.T, s, want string) {
	t.Helper()
	if got, err := puny.Decode(s); got != want || err != api.OK {
		t.Errorf("Decode(%.60q): %.60q, %d, not %.60q", s, got, err, want)
	}
}

func wantError(t *testing.T, call func(string) (string, api.Errno), s string, want api.Errno) {
	t.Helper()
	if got, err := call(s); got != "" || err != want {
		t.Errorf("of %.60q (%d bytes): %.60q, %d, not %d", s, len(s), got, err, want)
	}
}

// samples: rows of the chapter, and texts of RFC 3492 (7.1).
func samples() map[string]string {
	return map[string]string{
		"bücher": "bcher-kva", "ü": "tda", "☃": "n3h", "例え": "r8jz45g", "abc": "abc-", "": "",
		"他们为什么不说中文": "ihqwcrb4cv8a8dqg056pqjye", "3年B組金八先生": "3B-ww4c5e180e575a65lsy2b",
		"Pročprostěnemluvíčesky":                   "Proprostnemluvesky-uyb24dma41a",
		"他們爲什麽不說中文":                                "ihqwctvzc91f659drss3x8bo0yb",
		"ليهمابتكلموشعربي؟":                        "egbpdaj6bu4bxfgehfvwxn",
		"למההםפשוטלאמדבריםעברית":                   "4dbcagdahymbxekheh6e0a7fei0b",
		"PorquénopuedensimplementehablarenEspañol": "PorqunopuedensimplementehablarenEspaol-fmd56a",
		"TạisaohọkhôngthểchỉnóitiếngViệt":          "TisaohkhngthchnitingVit-kjcr8268qyxafd2f1b9g",
		"安室奈美恵-with-SUPER-MONKEYS":                 "-with-SUPER-MONKEYS-pc58ag80a8qai00g7n9n",
		"Hello-Another-Way-それぞれの場所":                "Hello-Another-Way--fc4qua05auwb3674vfr0b",
		"ひとつ屋根の下2":                                 "2-u9tlzr9756bt3uc0v",
		"MajiでKoiする5秒前":                            "MajiKoi5-783gue6qz075azm5e",
		"パフィーdeルンバ":                                "de-jg4avhby1noc0d",
		"そのスピードで":                                  "d9juau41awczczp",
		"-> $1.00 <-":                              "-> $1.00 <--",
	}
}

// P2.1
func TestEncode(t *testing.T) {
	for text, few := range samples() {
		wantEncoded(t, text, few)
	}
	for text, few := range map[string]string{
		"-":            "--",
		"--":           "---",
		"-a":           "-a-",
		"a-":           "a--",
		"a-b":          "a-b-",
		"ABC":          "ABC-",
		"a\x00\x7f":    "a\x00\x7f-",
		"\u0080":       "a",
		"\u0080\u0080": "aa",
		"\u0080-":      "--a",
		"-\u0080":      "--ba",
		"ü-":           "--dha",
		"BÜCHER":       "BCHER-2pa",
	} {
		if byWords, _ := fewByWords(text); byWords != few {
			t.Errorf("%q by the words: %q, not %q", text, byWords, few)
		}
		wantEncoded(t, text, few)
	}
}

// P2.1: the border and great letters of a text stay, digits are small.
func TestEncodeIsByTheWords(t *testing.T) {
	for _, text := range someTexts() {
		few, _ := fewByWords(text)
		wantEncoded(t, text, few)
	}
}

// P2.1
func TestEncodeOfSignsAtTheEdges(t *testing.T) {
	for _, sign := range []rune{128, 129, 0x7ff, 0x800, 55295, 57344, 0xffff, 0x10000, 1114111} {
		wantEncoded(t, string(sign), numberDigits(int(sign)-128, 72))
	}
}

// P2.1
func TestEncodeOfNoText(t *testing.T) {
	for _, s := range []string{
		"\xff", "\x80", "\xc3", "a\xc3", "\xc3a", "ü\xfc", "\xc0\x80", "\xe2\x98", "\xed\xa0\x80", "\xed\xbf\xbf",
		"\xf4\x90\x80\x80", strings.Repeat("a", limit-1) + "\xff",
	} {
		wantError(t, puny.Encode, s, api.ErrForm)
	}
}

// P2.1
func TestEncodeUpToTheLimit(t *testing.T) {
	most := strings.Repeat("a", limit)
	wantEncoded(t, most, most+"-")
	wantEncoded(t, strings.Repeat("\u0080", limit/2), strings.Repeat("a", limit/2))
	wantError(t, puny.Encode, most+"a", api.ErrLimit)
	wantError(t, puny.Encode, strings.Repeat("\u0080", limit/2)+"a", api.ErrLimit)
	wantError(t, puny.Encode, most+"\xff", api.ErrLimit)
}

// P2.1: Encode has no error where numbers are too great for Decode, and does not wrap round.
func TestEncodeOfGreatNumbers(t *testing.T) {
	for _, plain := range []int{1926, 1927, 1928, 3854, 3855, 10000, limit - 4} {
		text := strings.Repeat("a", plain)
		number := (1114111-128)*(plain+1) + plain
		wantEncoded(t, text+"\U0010ffff", text+"-"+numberDigits(number, 72))
	}
}

// P2.1, R1: long texts of many signs, rising, falling and mixed, take no more than a moment.
func TestEncodeOfManySigns(t *testing.T) {
	const signs = limit / 3
	r := rand.New(rand.NewSource(4))
	var rising, falling, mixed []rune
	for i, at := range r.Perm(signs) {
		rising = append(rising, rune(0x800+i))
		falling = append(falling, rune(0x800+signs-i))
		mixed = append(mixed, rune(0x800+at))
	}
	for _, text := range []string{string(rising), string(falling)} {
		few, err := puny.Encode(text)
		if err != api.OK {
			t.Fatalf("Encode: %d", err)
		}
		wantDecoded(t, few, text)
	}
	if few, err := puny.Encode(string(mixed)); len(few) < signs || err != api.OK {
		t.Errorf("Encode: %d bytes, %d", len(few), err)
	}
}

// P2.2
func TestDecode(t *testing.T) {
	for text, few := range samples() {
		wantDecoded(t, few, text)
	}
	for few, text := range map[string]string{
		"MNCHEN-3YA": "MüNCHEN",
		"mnchen-3yA": "münchen",
		"TDA":        "ü",
		"a":          "\u0080",
		"A":          "\u0080",
		"aa":         "\u0080\u0080",
		"--":         "-",
		"---":        "--",
		"--a":        "\u0080-",
		"--ba":       "-\u0080",
		"-b-":        "-b",
		"a-b-":       "a-b",
		"-b-a":       "\u0080-b",
		"!-a":        "\u0080!",
		"\x00-a":     "\u0080\x00",
	} {
		wantDecoded(t, few, text)
	}
}

// P2.2
func TestDecodeOfWhatMayNotBe(t *testing.T) {
	for _, s := range []string{
		"-a", "a-é", "k", "99999999",
		"-", "-tda", "ü", "\xff", "a-\xff", "\xff-a", "é-a", "\x80",
		"a-k", "a-!", "a!", "!", " ", "tda ", "tda\x00", "tda.", "--b", "bcher-kv", "bcher-kva9", "b", "9", "td",
		"a-bb-b", "99999999999999999999a", strings.Repeat("9", limit),
	} {
		wantError(t, puny.Decode, s, api.ErrForm)
	}
}

// P2.2: which bytes are digits, and which number each is, as the first digit of two.
func TestDecodeOfEveryByte(t *testing.T) {
	for i := range 256 {
		c := string([]byte{byte(i)})
		digit := strings.Index("abcdefghijklmnopqrstuvwxyz0123456789", ascii.Lower(c))
		if digit < 0 {
			wantError(t, puny.Decode, c+"a", api.ErrForm)
			if c != "-" { // there, it would be the last border
				wantError(t, puny.Decode, "a-"+c+"a", api.ErrForm)
			}
			continue
		}
		want := string(rune(128 + digit))
		if digit == 0 { // below the least step, it is a number of its own
			want = "\u0080\u0080"
		}
		wantDecoded(t, c+"a", want)
	}
}

// P2.2
func TestDecodeOfSignsAtTheEdges(t *testing.T) {
	for _, sign := range []int{128, 55295, 57344, 65533, 65535, 65536, 1114111} {
		wantDecoded(t, numberDigits(sign-128, 72), string(rune(sign)))
		wantDecoded(t, "aaa-"+numberDigits((sign-128)*4+2, 72), "aa"+string(rune(sign))+"a")
	}
	for _, sign := range []int{55296, 56319, 56320, 57343, 1114112, 1114113, 2000000, great} {
		wantError(t, puny.Decode, numberDigits(sign-128, 72), api.ErrForm)
		if sign < great/4 {
			wantError(t, puny.Decode, "aaa-"+numberDigits((sign-128)*4+2, 72), api.ErrForm)
		}
	}
}

// P2.2: a sign is reached from the one ahead, so that a later one may be too great, too.
func TestDecodeOfLaterSignsAtTheEdges(t *testing.T) {
	for _, c := range []struct {
		from, to int
		ok       bool
	}{
		{1114111, 1114111, true}, {1114111, 1114112, false}, {55295, 55296, false}, {55295, 57343, false}, {55295, 57344, true},
	} {
		first := c.from - 128
		few := numberDigits(first, 72) + numberDigits((c.to-c.from)*2, biasBehind(first, 1, true))
		if c.ok {
			wantDecoded(t, few, string([]rune{rune(c.from), rune(c.to)}))
		} else {
			wantError(t, puny.Decode, few, api.ErrForm)
		}
	}
}

// P2.2: so many plain signs that a number of 31 bits stays a sign.
func TestDecodeOfGreatNumbers(t *testing.T) {
	for _, plain := range []int{2000, 3000, 20000} {
		text := strings.Repeat("a", plain)
		place, sign := great%(plain+1), rune(128+great/(plain+1))
		wantDecoded(t, text+"-"+numberDigits(great, 72), text[:place]+string(sign)+text[place:])
		for _, more := range []int{1, 2, 1000, 1 << 31, 1 << 32, 1 << 33} {
			wantError(t, puny.Decode, text+"-"+numberDigits(great+more, 72), api.ErrForm)
		}
	}
}

// P2.2: each number adds up for itself, whatever place was reached ahead of it.
func TestDecodeOfLaterGreatNumbers(t *testing.T) {
	const plain = 3000
	text := strings.Repeat("a", plain)
	bias := biasBehind(plain, plain+1, true)
	few := text + "-" + numberDigits(plain, 72)
	counted := plain + 1 + great
	place, sign := counted%(plain+2), rune(128+counted/(plain+2))
	signs := slices.Insert([]rune(text+"\u0080"), place, sign)
	wantDecoded(t, few+numberDigits(great, bias), string(signs))
	wantError(t, puny.Decode, few+numberDigits(great+1, bias), api.ErrForm)
}

// P2.2
func TestDecodeUpToTheLimit(t *testing.T) {
	plain := strings.Repeat("a", limit-1)
	wantDecoded(t, plain+"-", plain)
	wantDecoded(t, plain+"a", strings.Repeat("\u0080", limit))
	wantError(t, puny.Decode, plain+"a-", api.ErrLimit)
	wantError(t, puny.Decode, plain+"aa", api.ErrLimit)
	wantError(t, puny.Decode, plain+"a\xff", api.ErrLimit)
	wantError(t, puny.Decode, plain+"\xff", api.ErrForm)
}

// P2.3
func TestLabel(t *testing.T) {
	for s, want := range map[string]string{
		"BüCHER":        "xn--bcher-kva",
		"Www":           "www",
		"xn--bcher-KVA": "xn--bcher-kva",
		"XN--BCHER-KVA": "xn--bcher-kva",
		"xN--TdA":       "xn--tda",
		"xn--a":         "xn--a",
		"bücher":        "xn--bcher-kva",
		"ü":             "xn--tda",
		"Ü":             "xn--wca",
		"-":             "-",
		"a b.c_":        "a b.c_",
		"\x00\x7f":      "\x00\x7f",
		"xn-":           "xn-",
		"xn-a-":         "xn-a-",
		"axn--":         "axn--",
		"xnn--k":        "xnn--k",
		" xn--k":        " xn--k",
	} {
		if got, err := puny.Label(s); got != want || err != api.OK {
			t.Errorf("Label(%q): %q, %d, not %q", s, got, err, want)
		}
	}
}

// P2.3
func TestLabelThatMayNotBe(t *testing.T) {
	for _, s := range []string{
		"", "\xff", "a\xc3", "ü\xff", "\xed\xa0\x80",
		"xn--abc-", "xn--", "XN--", "Xn--", "xn---", "xn----", "xn--www-", "XN--WWW-", "xn--k", "xn--zz--", "xn---a", "xn--a-!",
		"xn--99999999", "xn--tda ", "xn--bcher-kv",
		"xn--" + numberDigits(55296-128, 72), "xn--" + numberDigits(1114112-128, 72),
	} {
		wantError(t, puny.Label, s, api.ErrHost)
	}
}

// P2.3: a text that begins with xn-- and has other signs is encoded whole.
func TestLabelOfOtherSignsBehindThePrefix(t *testing.T) {
	for _, s := range []string{"xn--ü", "XN--ü", "üxn--"} {
		few, _ := fewByWords(ascii.Lower(s))
		if got, err := puny.Label(s); got != "xn--"+few || err != api.OK {
			t.Errorf("Label(%q): %q, %d", s, got, err)
		}
	}
}

// P2.3
func TestLabelUpToTheLimit(t *testing.T) {
	most := strings.Repeat("A", 63)
	if got, err := puny.Label(most); got != ascii.Lower(most) || err != api.OK {
		t.Errorf("Label of 63 bytes: %q, %d", got, err)
	}
	wantError(t, puny.Label, most+"A", api.ErrHost)
	wantError(t, puny.Label, strings.Repeat("a", limit+1), api.ErrHost)
	wantError(t, puny.Label, strings.Repeat("ü", limit), api.ErrHost)
	wantError(t, puny.Label, "xn--"+strings.Repeat("a", limit+1), api.ErrHost)

	// U+0080 is one digit each, if nothing else is there: 4 bytes and 59 of them.
	most = "xn--" + strings.Repeat("a", 59)
	for _, s := range []string{most, strings.Repeat("\u0080", 59), "XN--" + strings.Repeat("A", 59)} {
		if got, err := puny.Label(s); got != most || err != api.OK {
			t.Errorf("Label(%q): %q, %d", s, got, err)
		}
	}
	wantError(t, puny.Label, most+"a", api.ErrHost)
	wantError(t, puny.Label, strings.Repeat("\u0080", 60), api.ErrHost)
	wantError(t, puny.Label, strings.Repeat("\u0080", 63), api.ErrHost)
	wantError(t, puny.Label, strings.Repeat("\u0080", 64), api.ErrHost)
}

// P2.3
func TestShow(t *testing.T) {
	for s, want := range map[string]string{
		"XN--bcher-kva": "bücher",
		"www":           "www",
		"xn--zz--":      "xn--zz--",
		"":              "",
		"xn--bcher-kva": "bücher",
		"XN--BCHER-KVA": "bücher",
		"xN--TDA":       "ü",
		"WWW":           "WWW",
		"xn--":          "xn--",
		"XN--":          "XN--",
		"xn--abc-":      "xn--abc-",
		"XN--K":         "XN--K",
		"bücher":        "bücher",
		"BüCHER":        "BüCHER",
		"xn--ü":         "xn--ü",
		"XN--Ü":         "XN--Ü",
		"\xff":          "\xff",
		"xn--tda\xff":   "xn--tda\xff",
		"tda":           "tda",
		"xn--xn---fva":  "Ĕxn--",

		"xn--" + strings.Repeat("a", 59): strings.Repeat("\u0080", 59),
		"xn--" + strings.Repeat("A", 60): "xn--" + strings.Repeat("A", 60),
		strings.Repeat("A", 64):          strings.Repeat("A", 64),
	} {
		if got := puny.Show(s); got != want {
			t.Errorf("Show(%q): %q, not %q", s, got, want)
		}
	}
}

// P2.4
func TestDecodeOfEncode(t *testing.T) {
	for _, text := range someTexts() {
		few, err := puny.Encode(text)
		if err != api.OK {
			t.Fatalf("Encode(%q): %d", text, err)
		}
		wantDecoded(t, few, text)
	}
}

// P2.4: at the greatest number that may be between, and one more.
func TestDecodeOfEncodeUpToGreatNumbers(t *testing.T) {
	const plain = 3000
	place, sign := great%(plain+1), rune(128+great/(plain+1))
	for more := range 3 {
		text := strings.Repeat("a", place+more) + string(sign) + strings.Repeat("a", plain-place-more)
		few, greatest := fewByWords(text)
		wantEncoded(t, text, few)
		if greatest != great+more {
			t.Fatalf("the number is %d", greatest)
		}
		if more == 0 {
			wantDecoded(t, few, text)
		} else {
			wantError(t, puny.Decode, few, api.ErrForm)
		}
	}
}

// P2.4
func TestEncodeOfDecode(t *testing.T) {
	good := 0
	for _, few := range someFew() {
		text, err := puny.Decode(few)
		if err != api.OK {
			if text != "" || err != api.ErrForm {
				t.Errorf("Decode(%q): %q, %d", few, text, err)
			}
			continue
		}
		good++
		if !utf8.ValidString(text) {
			t.Errorf("Decode(%q): %q is no UTF-8", few, text)
		}
		wantEncoded(t, text, smallDigits(few))
	}
	if good < 1000 {
		t.Errorf("only %d texts were few letters", good)
	}
}

// P2.4, P2.3: Label of Label is the same, and Show of it tells the same label again.
func TestLabelOfLabel(t *testing.T) {
	texts := someTexts()
	for _, few := range someFew() {
		texts = append(texts, few, "xn--"+few, "Xn--"+few)
	}
	for _, text := range texts {
		label, err := puny.Label(text)
		if err != api.OK {
			continue
		}
		if again, err := puny.Label(label); again != label || err != api.OK {
			t.Errorf("Label(%q): %q, but of that %q, %d", text, label, again, err)
		}
		shown := puny.Show(label)
		if again, err := puny.Label(shown); again != label || err != api.OK {
			t.Errorf("Show(%q): %q, but Label of that %q, %d", label, shown, again, err)
		}
	}
}
