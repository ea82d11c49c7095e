package suffix_test

import (
	"math/rand"
	"regexp"
	"slices"
	"strings"
	"testing"

	"footman/api"
	"footman/hosts"
	"footman/suffix"
)

const partSigns = "abcdefghijklmnopqrstuvwxyz0123456789-"

// exampleRules are the rules of the chapter's examples.
func exampleRules() []string {
	return strings.Fields("com jp ac.jp *.kobe.jp !city.kobe.jp *.ck !www.ck uk co.uk")
}

func wantCheck(t *testing.T, want bool, rules ...string) {
	t.Helper()
	if got := suffix.Check(rules); got != want {
		t.Errorf("Check(%.80q): %v", rules, got)
	}
}

// wantRule: whether a text may be a rule, alone and among others, whatever is asked.
func wantRule(t *testing.T, text string, want bool) {
	t.Helper()
	wantCheck(t, want, text)
	wantCheck(t, want, "com", text)
	wantCheck(t, want, text, "com")
	if !want {
		wantErrors(t, []string{"com", text}, "a.com", api.ErrArg)
	}
}

// wantNames: a host's suffix and its own name; where own is empty, it has none.
func wantNames(t *testing.T, rules []string, host, last, own string) {
	t.Helper()
	if got, err := suffix.Suffix(rules, host); got != last || err != api.OK {
		t.Errorf("Suffix(%.80q, %.60q): %q, %d, not %q, 0", rules, host, got, err, last)
	}
	if got, err := suffix.Own(rules, host); got != own || err != api.OK {
		t.Errorf("Own(%.80q, %.60q): %q, %d, not %q, 0", rules, host, got, err, own)
	}
}

func wantErrors(t *testing.T, rules []string, host string, want api.Errno) {
	t.Helper()
	if got, err := suffix.Suffix(rules, host); got != "" || err != want {
		t.Errorf("Suffix(%.80q, %.60q): %q, %d, not empty, %d", rules, host, got, err, want)
	}
	if got, err := suffix.Own(rules, host); got != "" || err != want {
		t.Errorf("Own(%.80q, %.60q): %q, %d, not empty, %d", rules, host, got, err, want)
	}
}

func oneByte(c byte) string { return string([]byte{c}) }

// longName has so many bytes, in parts of at most MaxLabel.
func longName(bytes int) string {
	name := strings.Repeat(strings.Repeat("a", api.MaxLabel)+".", bytes/(api.MaxLabel+1)+1)[:bytes]
	if strings.HasSuffix(name, ".") {
		return "a" + name[:bytes-1]
	}
	return name
}

// many is a list of so many rules, each once.
func many(count int) []string {
	var rules []string
	for i := range count {
		rules = append(rules, oneByte('a'+byte(i/26/26))+oneByte('a'+byte(i/26%26))+oneByte('a'+byte(i%26)))
	}
	return rules
}

var ruleForm = regexp.MustCompile(`^(\*\.|)([a-z0-9-]{1,63}(?:\.[a-z0-9-]{1,63})*)$|^(!)([a-z0-9-]{1,63}(?:\.[a-z0-9-]{1,63})+)$`)

// isRuleByForm does what the chapter's words say of a rule, by a pattern.
func isRuleByForm(text string) bool {
	found := ruleForm.FindStringSubmatch(text)
	return found != nil && len(found[2]) <= api.MaxHost && len(found[4]) <= api.MaxHost
}

// namesByForm does what the chapter's words say of a host, each rule being a pattern of hosts' ends.
func namesByForm(rules []string, host string) (last, own string) {
	length, excepted := 1, false
	for _, text := range rules {
		name := strings.TrimPrefix(text, "!")
		end := strings.ReplaceAll(regexp.QuoteMeta(name), `\*`, `[^.]+`)
		if excepted || !regexp.MustCompile(`(?:^|\.)`+end+`$`).MatchString(host) {
			continue
		}
		count := strings.Count(name, ".") + 1
		if name != text {
			length, excepted = count-1, true
		} else {
			length = max(length, count)
		}
	}
	parts := strings.Split(host, ".")
	last = strings.Join(parts[len(parts)-length:], ".")
	if len(parts) > length {
		own = strings.Join(parts[len(parts)-length-1:], ".")
	}
	return last, own
}

// someName is of few parts, so that rules and hosts often end alike.
func someName(r *rand.Rand) string {
	name := oneByte("abx"[r.Intn(3)])
	for range r.Intn(5) {
		name = oneByte("abx"[r.Intn(3)]) + "." + name
	}
	return name
}

func someRules(r *rand.Rand) []string {
	var rules []string
	for range r.Intn(8) {
		name := someName(r)
		switch r.Intn(4) {
		case 0:
			name = "*." + name
		case 1:
			if strings.Contains(name, ".") {
				name = "!" + name
			}
		}
		rules = append(rules, name)
	}
	return rules
}

// exceptionsThatFit counts each rule with `!` once, however often it stands there.
func exceptionsThatFit(rules []string, host string) int {
	fit := map[string]int{}
	for _, text := range rules {
		if name, ok := strings.CutPrefix(text, "!"); ok && hosts.Below(host, name) {
			fit[text]++
		}
	}
	return len(fit)
}

// P8.1
func TestCheckOfRulesThatMayBe(t *testing.T) {
	wantCheck(t, true, exampleRules()...)
	wantCheck(t, true)
	wantCheck(t, true, "com", "com")
	wantCheck(t, true, "!a.b", "!a.b", "*.b", "*.b")
	for _, text := range []string{
		"a", "z", "0", "9", "-", "com", "a.b", "1.2.3.4", "-.-", "--", "a-b.c-d", "xn--p1ai", partSigns,
		"*.a", "*.a.b", "*.-", "!a.b", "!a.b.c", "!-.0", strings.Repeat("a.", 126) + "a",
	} {
		wantRule(t, text, true)
	}
}

// P8.1
func TestCheckOfRulesThatMayNotBe(t *testing.T) {
	for _, text := range []string{
		"", ".", "..", ".a", "a.", "a..b", ".a.b", "a.b.", "*..a", "*.a.", "*.a..b", "!.a.b", "!a..b", "!a.b.",
		"*", "*.", "*.*", "*.*.a", "**.a", "*a", "*a.b", "a*.b", "a.*", "a.*.b", ".*.a",
		"!", "!.", "!a", "!com", "!*", "!*.", "!*.a", "!*.a.b", "*.!", "*.!a", "*.!a.b", "!!a.b", "a!.b", "a.!b", "a.b!",
		"A", "aB.c", "a.COM", "!A.b", "*.A", "a b", " a", "a ", "a\t", "a\n", "a.b\n", "a_b", "a/b", "a:b", "a%61", "[::1]",
		"é", "bücher.de", "a.é", "*.é", "!é.a", "\xff", "a\xc3", "a\x00", "\x7f", "\u3002", "a\u3002b",
	} {
		wantRule(t, text, false)
	}
}

// P8.1: each byte as a part, and in one, ahead and behind, also behind `*.` and `!`.
func TestCheckOfEveryByte(t *testing.T) {
	for i := range 256 {
		c := oneByte(byte(i))
		want := strings.Contains(partSigns, c)
		for _, text := range []string{c, c + "a", "a" + c, c + ".a", "a." + c, "*." + c, "!a." + c, "!" + c + ".a"} {
			wantRule(t, text, want || text == "*.a")
		}
		wantRule(t, "a"+c+"a", want || c == ".")
	}
}

// P8.1
func TestCheckOfLengths(t *testing.T) {
	part := strings.Repeat("a", api.MaxLabel)
	for _, around := range [][2]string{{"", ""}, {"b.", ""}, {"", ".b"}, {"*.", ""}, {"*.b.", ".c"}, {"!", ".b"}, {"!b.", ""}} {
		wantRule(t, around[0]+part+around[1], true)
		wantRule(t, around[0]+"a"+part+around[1], false)
	}
	for _, ahead := range []string{"", "*.", "!"} {
		wantRule(t, ahead+longName(api.MaxHost), true)
		wantRule(t, ahead+longName(api.MaxHost+1), false)
		wantRule(t, ahead+longName(1<<20), false)
	}
	if len(longName(api.MaxHost)) != api.MaxHost || !isRuleByForm(longName(api.MaxHost)) {
		t.Error("longName is no name of that length")
	}
}

// P8.1, P8.2
func TestCheckOfManyRules(t *testing.T) {
	rules := many(api.MaxRules)
	wantCheck(t, true, rules...)
	wantNames(t, rules, "x.com", "com", "x.com")
	rules[api.MaxRules-1] = "A"
	wantCheck(t, false, rules...)
	wantCheck(t, false, many(api.MaxRules+1)...)
	wantErrors(t, many(api.MaxRules+1), "x.com", api.ErrArg)
	wantCheck(t, true, slices.Repeat([]string{"a"}, api.MaxRules)...)
	wantCheck(t, false, slices.Repeat([]string{"a"}, api.MaxRules+1)...)
	wantCheck(t, false, make([]string, 1<<20)...)
}

// P8.1: of texts of few bytes, against the pattern.
func TestCheckIsOfForm(t *testing.T) {
	r := rand.New(rand.NewSource(1))
	may := 0
	for range 20000 {
		b := make([]byte, r.Intn(7))
		for i := range b {
			b[i] = "ab.*!A"[r.Intn(6)]
		}
		text := string(b)
		wantCheck(t, isRuleByForm(text), text)
		if isRuleByForm(text) {
			may++
		}
	}
	if may < 1000 {
		t.Errorf("only %d of the texts may be rules", may)
	}
}

// P8.2, P8.3: the chapter's examples.
func TestExamples(t *testing.T) {
	for _, c := range [][3]string{
		{"com", "com", ""},
		{"example.com", "com", "example.com"},
		{"b.example.com", "com", "example.com"},
		{"b.c.kobe.jp", "c.kobe.jp", "b.c.kobe.jp"},
		{"c.kobe.jp", "c.kobe.jp", ""},
		{"kobe.jp", "jp", "kobe.jp"},
		{"www.city.kobe.jp", "kobe.jp", "city.kobe.jp"},
		{"ck", "ck", ""},
		{"test.ck", "test.ck", ""},
		{"b.test.ck", "test.ck", "b.test.ck"},
		{"www.ck", "ck", "www.ck"},
		{"www.www.ck", "ck", "www.ck"},
		{"a.b.example.example", "example", "example.example"},
		{"local", "local", ""},
	} {
		wantNames(t, exampleRules(), c[0], c[1], c[2])
	}
	for _, host := range []string{"1.2.3.4", "A.com", ""} {
		wantErrors(t, exampleRules(), host, api.ErrHost)
	}
	for _, text := range []string{"a..b", "!com", "A", "*.*.a"} {
		wantErrors(t, append(exampleRules(), text), "example.com", api.ErrArg)
		wantCheck(t, false, append(exampleRules(), text)...)
	}
}

// P8.2, P8.3
func TestRuleThatCounts(t *testing.T) {
	for _, c := range []struct {
		rules           string
		host, last, own string
	}{
		// no rule, and none that fits
		{"", "a", "a", ""},
		{"", "c.b.a", "a", "b.a"},
		{"com", "c.b.a", "a", "b.a"},
		{"b", "b.a", "a", "b.a"},
		{"bb.a", "b.a", "a", "b.a"},
		{"b.a", "bb.a", "a", "bb.a"},
		{"b.a", "xb.a", "a", "xb.a"},
		{"a.b", "b.a.c", "c", "a.c"},
		// one fewer part than the rule, as many, one more
		{"c.b.a", "b.a", "a", "b.a"},
		{"c.b.a", "c.b.a", "c.b.a", ""},
		{"c.b.a", "d.c.b.a", "c.b.a", "d.c.b.a"},
		{"c.b.a", "e.d.c.b.a", "c.b.a", "d.c.b.a"},
		{"c.b.a", "x.b.a", "a", "b.a"},
		// several that fit, of one length and of several
		{"b.a *.a b.a", "c.b.a", "b.a", "c.b.a"},
		{"a b.a c.b.a", "e.d.c.b.a", "c.b.a", "d.c.b.a"},
		{"c.b.a b.a a", "e.d.c.b.a", "c.b.a", "d.c.b.a"},
		{"b.a c.b.a a", "c.b.a", "c.b.a", ""},
		{"b.a d.c.b.a", "c.b.a", "b.a", "c.b.a"},
		// a star that fits, and one that would need a part more
		{"*.a", "a", "a", ""},
		{"*.a", "b.a", "b.a", ""},
		{"*.a", "c.b.a", "b.a", "c.b.a"},
		{"*.a", "d.c.b.a", "b.a", "c.b.a"},
		{"*.b.a", "b.a", "a", "b.a"},
		{"*.b.a b.a", "b.a", "b.a", ""},
		{"*.b.a b.a", "c.b.a", "c.b.a", ""},
		{"*.b.a", "c.x.a", "a", "x.a"},
		{"*.a c.b.a", "d.c.b.a", "c.b.a", "d.c.b.a"},
		{"*.a", "*.a", "*.a", ""},
		{"b.a", "*.a", "a", "*.a"},
		// an exception, ahead of what has more parts and behind it
		{"!b.a", "a", "a", ""},
		{"!b.a", "b.a", "a", "b.a"},
		{"!b.a", "c.b.a", "a", "b.a"},
		{"!b.a c.b.a", "d.c.b.a", "a", "b.a"},
		{"c.b.a !b.a", "d.c.b.a", "a", "b.a"},
		{"*.c.b.a !b.a a", "e.d.c.b.a", "a", "b.a"},
		{"!c.b.a", "b.a", "a", "b.a"},
		{"!c.b.a", "c.b.a", "b.a", "c.b.a"},
		{"!c.b.a *.b.a", "d.b.a", "d.b.a", ""},
		{"!c.b.a *.b.a", "e.d.b.a", "d.b.a", "e.d.b.a"},
		{"!c.b.a c.b.a", "d.c.b.a", "b.a", "c.b.a"},
		{"!b.a", "!b.a", "a", "!b.a"},
		// two exceptions: the first one that fits
		{"!b.a !c.b.a", "d.c.b.a", "a", "b.a"},
		{"!c.b.a !b.a", "d.c.b.a", "b.a", "c.b.a"},
		{"!c.b.a !b.a", "d.b.a", "a", "b.a"},
		{"!x.b.a !c.b.a !b.a", "d.c.b.a", "b.a", "c.b.a"},
		{"*.c.b.a !b.a !c.b.a", "c.b.a", "a", "b.a"},
	} {
		wantNames(t, strings.Fields(c.rules), c.host, c.last, c.own)
	}
}

// P8.2, P8.3: parts are what stands between points, whatever bytes they have, and of any length that a host has.
func TestOfUncommonHosts(t *testing.T) {
	wantNames(t, []string{"de"}, "xn--bcher-kva.de", "de", "xn--bcher-kva.de")
	wantNames(t, []string{"xn--p1ai"}, "a.xn--p1ai", "xn--p1ai", "a.xn--p1ai")
	wantNames(t, []string{"com"}, "a_b.c\"d.com", "com", "c\"d.com")
	wantNames(t, nil, "1.2.3.com", "com", "3.com")
	wantNames(t, []string{"4", "3.4", "*.4"}, "3.4.a", "a", "4.a")
	wantNames(t, []string{longName(api.MaxHost)}, longName(api.MaxHost), longName(api.MaxHost), "")
	wantNames(t, []string{"*." + longName(api.MaxHost)}, "a.b", "b", "a.b")
	short := strings.Repeat("a.", 125) + "a"
	wantNames(t, []string{short}, "b."+short, short, "b."+short)
	wantNames(t, []string{"!" + short}, "b."+short, short[2:], short)
	wantNames(t, []string{"*." + short}, "b."+short, "b."+short, "")
	wantNames(t, slices.Repeat([]string{"*." + short}, api.MaxRules), "b."+short, "b."+short, "")
}

// P8.2, P8.3
func TestHostsThatMayNotBe(t *testing.T) {
	for _, host := range []string{
		"", ".", "..", "a.", "example.com.", ".a", "a..b", "A", "A.com", "example.COM", "É.com", "bücher.de",
		"1.2.3.4", "127.0.0.1", "0.0.0.0", "1", "0x7f.1", "1.2.3.256", "a.1", "1.2.3.4.5", "[::1]", "[::0:1]", "[", "[]", "[::1", "[1.2.3.4]",
		" a.com", "a com", "a.com ", "a%2ecom", "a%", "a:80", "a/b", "a@b", "a\x00", "a\x7f", "\xff", "a.\xc3", "xn--k.com",
		longName(api.MaxHost + 1), strings.Repeat("a", api.MaxLabel+1) + ".com", strings.Repeat("a", api.MaxText), strings.Repeat("a", api.MaxText+1),
	} {
		wantErrors(t, exampleRules(), host, api.ErrHost)
		wantErrors(t, nil, host, api.ErrHost)
		wantErrors(t, []string{}, host, api.ErrHost)
	}
}

// P8.2, P8.3: ErrArg is named first.
func TestRulesAreAskedAheadOfHosts(t *testing.T) {
	for _, host := range []string{"", ".", "A.com", "1.2.3.4", "[::1]", "\xff", strings.Repeat("a", api.MaxText+1)} {
		wantErrors(t, []string{"A"}, host, api.ErrArg)
		wantErrors(t, []string{"com", ""}, host, api.ErrArg)
		wantErrors(t, make([]string, api.MaxRules+1), host, api.ErrArg)
	}
	wantErrors(t, []string{""}, "a.com", api.ErrArg)
	wantErrors(t, []string{"com", "a.b", "\xff"}, "a.com", api.ErrArg)
	// One that fits ahead of it does not hide it.
	wantErrors(t, []string{"!a.com", "A"}, "a.com", api.ErrArg)
}

// P8.2, P8.3: against the patterns.
func TestNamesAreOfForm(t *testing.T) {
	r := rand.New(rand.NewSource(2))
	for range 20000 {
		rules, host := someRules(r), someName(r)
		last, own := namesByForm(rules, host)
		wantNames(t, rules, host, last, own)
	}
}

// P8.4
func TestHostsAreBelowTheirNames(t *testing.T) {
	r := rand.New(rand.NewSource(3))
	withOwn := 0
	for range 5000 {
		rules, host := someRules(r), someName(r)
		last, err := suffix.Suffix(rules, host)
		own, ownErr := suffix.Own(rules, host)
		if err != api.OK || ownErr != api.OK || !hosts.Below(host, last) {
			t.Fatalf("%q, %q: %q, %d, %q, %d", rules, host, last, err, own, ownErr)
		}
		if own == "" {
			if last != host {
				t.Fatalf("%q, %q: no own name, though its suffix is %q", rules, host, last)
			}
			continue
		}
		withOwn++
		if !hosts.Below(host, own) || !hosts.Below(own, last) || len(hosts.Labels(own)) != len(hosts.Labels(last))+1 {
			t.Fatalf("%q, %q: the own name %q, the suffix %q", rules, host, own, last)
		}
	}
	if withOwn < 1000 {
		t.Errorf("only %d of the hosts have an own name", withOwn)
	}
}

// P8.4
func TestOrderAndNumberOfRules(t *testing.T) {
	r := rand.New(rand.NewSource(4))
	for range 5000 {
		rules, host := someRules(r), someName(r)
		if exceptionsThatFit(rules, host) > 1 {
			continue
		}
		last, _ := suffix.Suffix(rules, host)
		own, _ := suffix.Own(rules, host)
		others := append(slices.Clone(rules), rules[:r.Intn(len(rules)+1)]...)
		r.Shuffle(len(others), func(i, j int) { others[i], others[j] = others[j], others[i] })
		wantNames(t, others, host, last, own)
	}
}

// R4: the rules stay as they were, their spare room too.
func TestRulesStay(t *testing.T) {
	all := append(exampleRules(), "spare", "*.room")
	for _, host := range []string{"b.c.kobe.jp", "www.city.kobe.jp", "com", "1.2.3.4", ""} {
		rules := slices.Clone(all)
		few := rules[:len(rules)-2]
		suffix.Check(few)
		suffix.Suffix(few, host)
		suffix.Own(few, host)
		if !slices.Equal(rules, all) {
			t.Errorf("%q: the rules are %q now", host, rules)
		}
	}
}

// R5: what was asked ahead makes no difference.
func TestAnswersHangOnNothingElse(t *testing.T) {
	wantNames(t, exampleRules(), "a.b.ck", "b.ck", "a.b.ck")
	wantNames(t, nil, "a.b.ck", "ck", "b.ck")
	wantErrors(t, []string{"A"}, "a.b.ck", api.ErrArg)
	rules := exampleRules()
	wantNames(t, rules, "a.b.ck", "b.ck", "a.b.ck")
	rules[5] = "b.ck"
	wantNames(t, rules, "a.c.ck", "ck", "c.ck")
}
