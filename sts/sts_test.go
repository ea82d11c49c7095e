package sts_test

import (
	"math"
	"math/big"
	"math/rand"
	"regexp"
	"strconv"
	"strings"
	"testing"

	"footman/api"
	"footman/sts"
)

const (
	mostAge    = 1<<31 - 1
	tokenSigns = "ABCDEFGHIJKLMNOPQRSTUVWXYZabcdefghijklmnopqrstuvwxyz0123456789!#$%&'*+-.^_`|~"
)

func wantParse(t *testing.T, s string, want api.Wish) {
	t.Helper()
	if got, err := sts.Parse(s); got != want || err != api.OK {
		t.Errorf("Parse(%.80q): %v, %d, not %v, 0", s, got, err, want)
	}
}

func wantNoParse(t *testing.T, s string, want api.Errno) {
	t.Helper()
	if got, err := sts.Parse(s); got != (api.Wish{}) || err != want {
		t.Errorf("Parse(%.80q): %v, %d, not nothing, %d", s, got, err, want)
	}
}

func wantText(t *testing.T, w api.Wish, want string) {
	t.Helper()
	if got, err := sts.Text(w); got != want || err != api.OK {
		t.Errorf("Text(%v): %.80q, %d, not %q, 0", w, got, err, want)
	}
}

func oneByte(c byte) string { return string([]byte{c}) }

// control: may a byte stand nowhere?
func control(c byte) bool { return c < 32 && c != 9 || c == 127 }

// mixed: every other byte great.
func mixed(s string) string {
	b := []byte(strings.ToLower(s))
	for i := 0; i < len(b); i += 2 {
		b[i] = strings.ToUpper(s)[i]
	}
	return string(b)
}

// written: a name in small letters, in great ones, mixed.
func written(s string) []string {
	return []string{strings.ToLower(s), strings.ToUpper(s), mixed(s)}
}

// P11.1
func TestParseExamples(t *testing.T) {
	wantParse(t, "max-age=31536000; includeSubDomains", api.Wish{Age: 31536000, Subs: true})
	wantParse(t, `MAX-AGE="0" ;;`, api.Wish{})
	wantParse(t, `max-age = 5;x;y="a;\"=b"`, api.Wish{Age: 5})
	wantParse(t, "max-age=99999999999999999999", api.Wish{Age: mostAge})
	for _, s := range []string{
		"", "includeSubDomains", "max-age", "max-age=", "max-age=1; Max-Age=1", "max-age=1; includeSubDomains=1",
		"max-age=1 2", `max-age="1`,
	} {
		wantNoParse(t, s, api.ErrForm)
	}
}

// P11.1
func TestParseLimit(t *testing.T) {
	for _, start := range []string{"max-age=1;", "max-age=1; includeSubDomains ;"} {
		room := api.MaxText - len(start)
		want := api.Wish{Age: 1, Subs: strings.Contains(start, "S")}
		for _, fill := range []string{" ", ";", "x"} {
			wantParse(t, start+strings.Repeat(fill, room), want)
			wantNoParse(t, start+strings.Repeat(fill, room+1), api.ErrLimit)
		}
	}
	wantParse(t, "max-age="+strings.Repeat("0", api.MaxText-9)+"7", api.Wish{Age: 7})
	wantParse(t, "max-age="+strings.Repeat("9", api.MaxText-8), api.Wish{Age: mostAge})
	wantParse(t, `max-age=5;x="`+strings.Repeat(`\"`, (api.MaxText-14)/2)+`"`, api.Wish{Age: 5})
}

// P11.1: of several errors the limit is named first. (R2)
func TestParseLimitFirst(t *testing.T) {
	for _, fill := range []string{" ", ";", "\x00", "=", `"`, "1"} {
		wantNoParse(t, strings.Repeat(fill, api.MaxText), api.ErrForm)
		wantNoParse(t, strings.Repeat(fill, api.MaxText+1), api.ErrLimit)
	}
}

// P11.1: bytes are counted, not letters.
func TestParseLimitOfBytes(t *testing.T) {
	start := `max-age=5;x="`
	room := api.MaxText - len(start) - 1
	s := start + strings.Repeat("é", room/2) + strings.Repeat("a", room%2) + `"`
	wantParse(t, s, api.Wish{Age: 5})
	wantNoParse(t, s+" ", api.ErrLimit)
}

// P11.1: directives with a ; between each two, some of them empty.
func TestParseDirectives(t *testing.T) {
	for _, s := range []string{
		"max-age=5", ";max-age=5", "max-age=5;", ";;;max-age=5;;;", " ; \t;max-age=5; ; ", "x;max-age=5", "max-age=5;x",
		"x;y;z;max-age=5;a;b;c", "max-age=5;x=y", "x=y;max-age=5", `x="";max-age=5`,
	} {
		wantParse(t, s, api.Wish{Age: 5})
	}
	for _, s := range []string{
		";", ";;", " ", "\t ;", "x", "x;y", "max-age=5,x", "max-age=5, x", "max-age=5 x", "max-age=5;x y", "max-age=5 ;x y",
		"max-age=5;=", "max-age=5;=x", "max-age=5; =x", `max-age=5;=""`, "=;max-age=5", "max-age=5;x=", "max-age=5;x= ",
		"max-age=5;x=;y", "x=;max-age=5", "max-age=5;x==y", "max-age=5;x=y=z", "max-age==5", "max-age=5=", "max-age=5=6",
		"max-age=5;x= =y", "5", "max-age 5", "max-age:5", "max age=5", "max-age=5;\"x\"", `max-age=5;"x"=y`, `"max-age"=5`,
		`max-age=5;x"y"`, `max-age=5;x="y"z`, `max-age=5;x="y"=z`, `max-age=5;x="y" z`, `max-age=5;x="y""z"`,
		`max-age=5;x=y"z"`, `max-age=5;x=y"z`, `max-age=5;x="y" "z"`, `max-age=5;x="y";"`, `max-age=5;x='a b'`,
	} {
		wantNoParse(t, s, api.ErrForm)
	}
}

// P11.1: blanks may stand around each directive, and around its =.
func TestParseBlanks(t *testing.T) {
	for _, blank := range []string{"", " ", "\t", "  ", " \t", "\t \t "} {
		for _, value := range []string{"5", `"5"`} {
			for _, subs := range []string{"includeSubDomains", "x=y;includeSubDomains", `includeSubDomains;x="y"`} {
				around := func(sign string) string { return blank + sign + blank }
				s := blank + "max-age" + around("=") + value + around(";") + subs + blank
				wantParse(t, strings.ReplaceAll(s, "x=", "x"+around("=")), api.Wish{Age: 5, Subs: true})
			}
		}
	}
	// Nothing else is a blank, whatever other layers take for one.
	for _, sign := range []string{"\n", "\r", "\v", "\f", "\x00", "\u0085", "\u00a0", "\u2003", "\ufeff"} {
		for _, s := range []string{
			sign + "max-age=5", "max-age" + sign + "=5", "max-age=" + sign + "5", "max-age=5" + sign, "max-age=5;" + sign,
			"max-age=5;" + sign + "x", `max-age="5"` + sign, `max-age=` + sign + `"5"`,
		} {
			wantNoParse(t, s, api.ErrForm)
		}
	}
}

// P11.1: a name and a value without quotes are tokens.
func TestParseTokens(t *testing.T) {
	for i := range 256 {
		sign := oneByte(byte(i))
		if strings.Contains(" \t;=\"", sign) {
			continue
		}
		for _, s := range []string{
			"max-age=5;" + sign, "max-age=5;" + sign + "=y", "max-age=5;x" + sign + "z", "max-age=5;x" + sign + "z=y",
			"max-age=5;x=" + sign, "max-age=5;x=y" + sign + "z", "max-age=5;x=" + sign + ";",
		} {
			if strings.Contains(tokenSigns, sign) {
				wantParse(t, s, api.Wish{Age: 5})
			} else {
				wantNoParse(t, s, api.ErrForm)
			}
		}
	}
}

// P11.1: what may stand in quotes, and behind a \ there.
func TestParseQuotes(t *testing.T) {
	for i := range 256 {
		sign := oneByte(byte(i))
		// A \ behind which nothing stands that it could say takes the last quotation mark for itself.
		plain := !control(byte(i)) && sign != `"` && sign != `\`
		for _, s := range []string{`x="` + sign + `"`, `x="a` + sign + `"`, `x=" ` + sign + `";y`} {
			if plain {
				wantParse(t, "max-age=5;"+s, api.Wish{Age: 5})
			} else {
				wantNoParse(t, "max-age=5;"+s, api.ErrForm)
			}
		}
		for _, s := range []string{`x="\` + sign + `"`, `x="a\` + sign + `b"`, `x="\\\` + sign + `"`} {
			if control(byte(i)) {
				wantNoParse(t, "max-age=5;"+s, api.ErrForm)
			} else {
				wantParse(t, "max-age=5;"+s, api.Wish{Age: 5})
			}
		}
	}
	for _, s := range []string{`""`, `"a;b"`, `"="`, `";max-age=6"`, `";x;x"`, `"\\"`, `"\""`, `"\"\\\""`, `" "`, "\"\t\"", `"é"`, "\"\xff\""} {
		wantParse(t, "max-age=5;x="+s, api.Wish{Age: 5})
		wantParse(t, "x="+s+";max-age=5", api.Wish{Age: 5})
	}
	for _, s := range []string{`"`, `"a`, `"\`, `"\"`, `"\\\"`, `"a;y`, `"a\`, `a"`, `"""`, `"a"b"`, `"\\""`} {
		wantNoParse(t, "max-age=5;x="+s, api.ErrForm)
		wantNoParse(t, "max-age=5;x="+s+";y", api.ErrForm)
	}
}

// P11.1: what stands in quotes is no directive.
func TestParseQuotedDirectives(t *testing.T) {
	wantNoParse(t, `x="max-age=5"`, api.ErrForm)
	wantNoParse(t, `x=";max-age=5;"`, api.ErrForm)
	wantNoParse(t, `x="a;max-age=5`, api.ErrForm)
	wantParse(t, `x=";includeSubDomains;";max-age=5`, api.Wish{Age: 5})
	wantParse(t, `x="\";includeSubDomains;\"";max-age=5`, api.Wish{Age: 5})
	wantParse(t, `x="\\";includeSubDomains;y="";max-age=5`, api.Wish{Age: 5, Subs: true})
}

// P11.1: a name stands there twice, small or great, known or not, whatever it says.
func TestParseTwice(t *testing.T) {
	for _, s := range []string{
		"max-age=1;max-age=1", "max-age=1;max-age=2", "max-age=1;MAX-AGE=1", "max-age;max-age=1", "max-age=1;max-age",
		"max-age=1;x;x", "max-age=1;x;X", "X;max-age=1;x", "x=1;max-age=1;x=1", `x;max-age=1;x="1"`, "max-age=1;x=1;y;X=2",
		"max-age=1;includeSubDomains;includesubdomains", "includeSubDomains;max-age=1;includeSubDomains",
		"max-age=1;x;;;x", "max-age=1; x ;\tx", "max-age=1;~;~",
	} {
		wantNoParse(t, s, api.ErrForm)
	}
	// These are other names, and letters above the first 128 make no token.
	wantParse(t, "max-age=1;x;y;xx;x-;^;~;|;`;'", api.Wish{Age: 1})
	wantParse(t, "max-age=1;max-ages=2;maxage=3;max-ag=4;max_age=5", api.Wish{Age: 1})
	for _, s := range []string{"max-age=1;x=1;\u212a", "max-age=1;include\u017fubDomain\u017f", "max-age=1;\u0130"} {
		wantNoParse(t, s, api.ErrForm)
	}
}

// P11.1, P11.3: each byte's name, and whether another byte's is the same.
func TestParseTwiceOfEachByte(t *testing.T) {
	for i := range len(tokenSigns) {
		for j := range len(tokenSigns) {
			a, b := tokenSigns[i:i+1], tokenSigns[j:j+1]
			s := "max-age=5;" + a + ";" + b
			if strings.EqualFold(a, b) {
				wantNoParse(t, s, api.ErrForm)
			} else {
				wantParse(t, s, api.Wish{Age: 5})
			}
		}
	}
}

// P11.1: many names are held against each other.
func TestParseManyNames(t *testing.T) {
	var names []string
	for i := range 9000 {
		names = append(names, "n"+strconv.Itoa(i))
	}
	s := "max-age=5;" + strings.Join(names, ";")
	wantParse(t, s, api.Wish{Age: 5})
	wantNoParse(t, s+";N0", api.ErrForm)
	wantNoParse(t, s+";n8999", api.ErrForm)
}

// P11.1: max-age stands there, and its value is digits, at least one.
func TestParseDigits(t *testing.T) {
	for _, c := range []struct {
		value string
		want  int
	}{
		{"0", 0}, {"1", 1}, {"9", 9}, {"10", 10}, {"007", 7}, {"000", 0}, {"1234567890", 1234567890},
		{`"1"`, 1}, {`"\1"`, 1}, {`"\1\2"`, 12}, {`"1\2"`, 12}, {`"007"`, 7}, {`"00\0"`, 0},
	} {
		wantParse(t, "max-age="+c.value, api.Wish{Age: c.want})
		wantParse(t, "includeSubDomains;max-age="+c.value+";x", api.Wish{Age: c.want, Subs: true})
	}
	for _, s := range []string{
		"max-age", "max-age;", "max-age=", `max-age=""`, "max-age=-1", "max-age=+1", "max-age=1.0", "max-age=1e1", "max-age=0x1",
		"max-age=1_0", "max-age=x", "max-age=1x", "max-age=x1", `max-age=" 1"`, `max-age="1 "`, `max-age="1 2"`, `max-age="1;2"`,
		`max-age="-1"`, `max-age="\"1\""`, `max-age="\\1"`, "max-age='1'", "max-age=\"\u0661\"", "max-age=\u0661",
		"max-age=99999999999999999999x", "max-age=99999999999999999999-", `max-age="99999999999999999999 "`,
		"includeSubDomains", "x=5", "age=5", "max-age-=5", "-max-age=5", "max--age=5", "maxage=5",
	} {
		wantNoParse(t, s, api.ErrForm)
		wantNoParse(t, "includeSubDomains;"+s, api.ErrForm)
	}
}

// P11.1: no other byte is a digit.
func TestParseDigitsOfEachByte(t *testing.T) {
	for i := range 256 {
		sign := oneByte(byte(i))
		for _, s := range []string{`max-age="` + sign + `"`, `max-age="1` + sign + `"`, `max-age="` + sign + `1"`, `max-age="\` + sign + `"`} {
			_, err := sts.Parse(s)
			want := api.ErrForm
			if '0' <= i && i <= '9' {
				want = api.OK
			}
			// Between 1 and a quotation mark a \ takes the mark for itself, ahead of 1 it says 1.
			if sign == `\` && s == `max-age="\1"` {
				want = api.OK
			}
			if err != want {
				t.Errorf("Parse(%q): %d, not %d", s, err, want)
			}
		}
	}
}

// P11.1: above 2^31 - 1 as that.
func TestParseGreatAges(t *testing.T) {
	for _, c := range []struct {
		digits string
		want   int
	}{
		{"2147483646", mostAge - 1}, {"2147483647", mostAge}, {"2147483648", mostAge}, {"4294967296", mostAge},
		{"4294967297", mostAge}, {"9223372036854775807", mostAge}, {"9223372036854775808", mostAge},
		{"18446744073709551616", mostAge}, {"18446744073709551617", mostAge}, {"21474836470", mostAge},
		{"0000000000000000000000002147483646", mostAge - 1}, {"1000000000000000000", mostAge},
		{"1" + strings.Repeat("0", 500), mostAge}, {strings.Repeat("0", 500) + "1", 1},
	} {
		wantParse(t, "max-age="+c.digits, api.Wish{Age: c.want})
		wantParse(t, `max-age="`+c.digits+`"`, api.Wish{Age: c.want})
	}
}

// P11.1: whether includeSubDomains stands there; it has no value.
func TestParseSubs(t *testing.T) {
	for _, s := range []string{
		"max-age=5;includeSubDomains", "includeSubDomains;max-age=5", "max-age=5; includeSubDomains ;", "x;includeSubDomains;max-age=5",
	} {
		wantParse(t, s, api.Wish{Age: 5, Subs: true})
	}
	for _, s := range []string{
		"max-age=5", "max-age=5;includeSubDomain", "max-age=5;includeSubDomainss", "max-age=5;include-SubDomains",
		"max-age=5;x=includeSubDomains", `max-age=5;x="includeSubDomains"`, "max-age=5;subs=1",
	} {
		wantParse(t, s, api.Wish{Age: 5})
	}
	for _, value := range []string{"=1", "=0", `=""`, `="1"`, "=", "= ", " = x", "=true"} {
		for _, name := range written("includeSubDomains") {
			wantNoParse(t, "max-age=5;"+name+value, api.ErrForm)
			wantNoParse(t, name+value+";max-age=5", api.ErrForm)
		}
	}
}

// P11.2
func TestText(t *testing.T) {
	wantText(t, api.Wish{Age: 5, Subs: true}, "max-age=5; includeSubDomains")
	wantText(t, api.Wish{Age: 5}, "max-age=5")
	wantText(t, api.Wish{}, "max-age=0")
	wantText(t, api.Wish{Subs: true}, "max-age=0; includeSubDomains")
	wantText(t, api.Wish{Age: 31536000}, "max-age=31536000")
	wantText(t, api.Wish{Age: mostAge}, "max-age=2147483647")
	wantText(t, api.Wish{Age: mostAge, Subs: true}, "max-age=2147483647; includeSubDomains")
	for _, age := range []int{-1, mostAge + 1, 1 << 32, 1<<32 + 5, math.MinInt, math.MaxInt, -mostAge, -1 << 31} {
		for _, subs := range []bool{false, true} {
			if got, err := sts.Text(api.Wish{Age: age, Subs: subs}); got != "" || err != api.ErrArg {
				t.Errorf("Text(%d, %v): %q, %d, not empty, 1", age, subs, got, err)
			}
		}
	}
}

// P11.3: Parse of Text is the wish.
func TestParseOfText(t *testing.T) {
	r := rand.New(rand.NewSource(11))
	ages := []int{0, 1, 9, 10, 99, 100, mostAge - 1, mostAge}
	for range 2000 {
		ages = append(ages, r.Intn(mostAge)>>r.Intn(31))
	}
	for _, age := range ages {
		for _, subs := range []bool{false, true} {
			w := api.Wish{Age: age, Subs: subs}
			text, err := sts.Text(w)
			if err != api.OK {
				t.Errorf("Text(%v): %d", w, err)
			}
			wantParse(t, text, w)
		}
	}
}

// P11.3: directives that are not known make no difference.
func TestParseUnknown(t *testing.T) {
	for _, unknown := range []string{"preload", "x=1", `x="1"`, `x=";"`, "", "max=5", "age=6", "includeSub", "SubDomains=1", "q=max-age"} {
		for _, s := range []string{unknown + ";max-age=5;includeSubDomains", "max-age=5;" + unknown + ";includeSubDomains", "max-age=5;includeSubDomains;" + unknown} {
			wantParse(t, s, api.Wish{Age: 5, Subs: true})
			wantNoParse(t, strings.ReplaceAll(s, "max-age=5", "x-y=5"), api.ErrForm)
		}
	}
}

// P11.3: nor does the order, nor great and small letters in names.
func TestParseOrderAndLetters(t *testing.T) {
	for _, age := range written("max-age") {
		for _, subs := range written("includeSubDomains") {
			for _, other := range written("preload") {
				a, s, o := age+"=5", subs, other
				for _, row := range [][]string{{a, s, o}, {a, o, s}, {s, a, o}, {s, o, a}, {o, a, s}, {o, s, a}} {
					wantParse(t, strings.Join(row, ";"), api.Wish{Age: 5, Subs: true})
				}
				wantNoParse(t, strings.Join([]string{a, s, o, strings.ToUpper(other)}, ";"), api.ErrForm)
			}
		}
	}
}

const (
	tokenForm  = "[-!#$%&'*+.^_|~\x600-9A-Za-z]+"
	plainForm  = `[^\x00-\x08\x0a-\x1f\x7f"\\]`
	spokenForm = `\\[^\x00-\x08\x0a-\x1f\x7f]`
	quotedForm = `"(?:` + plainForm + `|` + spokenForm + `)*"`
	partForm   = `[ \t]*(?:(` + tokenForm + `)[ \t]*(?:=[ \t]*(` + tokenForm + `|` + quotedForm + `)[ \t]*)?)?`
)

var (
	valueForm = regexp.MustCompile(`^` + partForm + `(?:;` + partForm + `)*$`)
	pieceForm = regexp.MustCompile(`^;` + partForm)
	saysForm  = regexp.MustCompile(`(?s)\\(.)`)
	digitForm = regexp.MustCompile(`^[0-9]+$`)
)

// signs: each byte as a rune of its own, as patterns go by runes.
func signs(s string) string {
	var out []rune
	for i := range len(s) {
		out = append(out, rune(s[i]))
	}
	return string(out)
}

// parseByForm is Parse by the chapter's words alone.
func parseByForm(s string) (api.Wish, api.Errno) {
	if len(s) > api.MaxText {
		return api.Wish{}, api.ErrLimit
	}
	s = signs(s)
	if !valueForm.MatchString(s) {
		return api.Wish{}, api.ErrForm
	}
	said := map[string]string{}
	for rest := ";" + s; rest != ""; {
		m := pieceForm.FindStringSubmatch(rest)
		rest = rest[len(m[0]):]
		name := strings.ToLower(m[1])
		if _, twice := said[name]; twice && name != "" {
			return api.Wish{}, api.ErrForm
		}
		said[name] = m[2]
	}
	subs, has := said["includesubdomains"]
	digits := said["max-age"]
	if strings.HasPrefix(digits, `"`) {
		digits = saysForm.ReplaceAllString(digits[1:len(digits)-1], "$1")
	}
	if subs != "" || !digitForm.MatchString(digits) {
		return api.Wish{}, api.ErrForm
	}
	age, _ := new(big.Int).SetString(digits, 10)
	if age.Cmp(big.NewInt(mostAge)) > 0 {
		age.SetInt64(mostAge)
	}
	return api.Wish{Age: int(age.Int64()), Subs: has}, api.OK
}

var pieces = []string{
	"max-age", "Max-Age", "includeSubDomains", "INCLUDESUBDOMAINS", "x", "X", "y", "preload", "=", "=", "=", ";", ";", ";", " ", "\t",
	`"`, `"`, `\`, "5", "007", "2147483648", `"5"`, `"\5"`, `""`, "max-age=1", "max-age=2", `a="b;\"c"`, "z=1", ",", "\n", "\x00", "\x7f", "é", "\xff",
}

// someText: of pieces alone, or of directives, some of them spoilt.
func someText(r *rand.Rand) string {
	var s strings.Builder
	if r.Intn(3) == 0 {
		for range r.Intn(9) {
			s.WriteString(pieces[r.Intn(len(pieces))])
		}
		return s.String()
	}
	parts := []string{"max-age=1", `MAX-AGE = "\2"`, "includeSubDomains", "includesubdomains ", "", " ", "x", "x=y", `X = "a;b\\"`, "y", "\tz =\t1"}
	for i := range 1 + r.Intn(5) {
		if i > 0 {
			s.WriteString(";")
		}
		s.WriteString(parts[r.Intn(len(parts))])
	}
	text := s.String()
	if r.Intn(4) > 0 {
		return text
	}
	at := r.Intn(len(text) + 1)
	return text[:at] + pieces[r.Intn(len(pieces))] + text[at:]
}

// P11.1, P11.3: against the chapter's words, written down a second time.
func TestParseByForm(t *testing.T) {
	r := rand.New(rand.NewSource(1))
	read, withSubs := 0, 0
	for range 60000 {
		s := someText(r)
		want, wantErr := parseByForm(s)
		got, err := sts.Parse(s)
		if got != want || err != wantErr {
			t.Fatalf("Parse(%q): %v, %d, not %v, %d", s, got, err, want, wantErr)
		}
		if err == api.OK {
			read++
		}
		if got.Subs {
			withSubs++
		}
	}
	if read < 5000 || withSubs < 1000 {
		t.Errorf("only %d texts were values, %d with all below", read, withSubs)
	}
}

// R1, R5: any bytes, and the same answer each time.
func TestParseOfAnyBytes(t *testing.T) {
	r := rand.New(rand.NewSource(2))
	for range 5000 {
		b := make([]byte, r.Intn(24))
		r.Read(b)
		s := string(b)
		for _, s := range []string{s, "max-age=5;" + s, `max-age=5;x="` + s + `"`} {
			want, wantErr := parseByForm(s)
			for range 2 {
				if got, err := sts.Parse(s); got != want || err != wantErr {
					t.Fatalf("Parse(%q): %v, %d, not %v, %d", s, got, err, want, wantErr)
				}
			}
		}
	}
}

// R5: a value that may not be leaves nothing behind.
func TestParseAfterFaults(t *testing.T) {
	wantNoParse(t, "max-age=5;includeSubDomains;x;x", api.ErrForm)
	wantParse(t, "max-age=6;x", api.Wish{Age: 6})
	wantNoParse(t, "includeSubDomains", api.ErrForm)
	wantParse(t, "max-age=7", api.Wish{Age: 7})
}
