package addrs_test

import (
	"math/big"
	"math/rand"
	"net/netip"
	"slices"
	"strconv"
	"strings"
	"testing"

	"footman/addrs"
	"footman/api"
)

func four(a, b, c, d byte) api.Addr { return api.Addr{Bytes: [16]byte{a, b, c, d}} }

func six(pieces ...int) api.Addr {
	a := api.Addr{Six: true}
	for i, piece := range pieces {
		a.Bytes[2*i], a.Bytes[2*i+1] = byte(piece>>8), byte(piece)
	}
	return a
}

func wantFour(t *testing.T, s string, want api.Addr) {
	t.Helper()
	if got, looks, err := addrs.Four(s); got != want || !looks || err != api.OK {
		t.Errorf("Four(%.60q): %v, %v, %d, not %v", s, got, looks, err, want)
	}
}

func wantNoFour(t *testing.T, s string) {
	t.Helper()
	if got, looks, err := addrs.Four(s); got != (api.Addr{}) || looks || err != api.OK {
		t.Errorf("Four(%.60q): %v, %v, %d, though it does not look like four bytes", s, got, looks, err)
	}
}

func wantFourRefused(t *testing.T, s string) {
	t.Helper()
	if got, looks, err := addrs.Four(s); got != (api.Addr{}) || !looks || err != api.ErrHost {
		t.Errorf("Four(%.60q): %v, %v, %d, though it is refused", s, got, looks, err)
	}
}

func wantSix(t *testing.T, s string, want api.Addr) {
	t.Helper()
	if got, err := addrs.Six(s); got != want || err != api.OK {
		t.Errorf("Six(%.60q): %v, %d, not %v", s, got, err, want)
	}
}

func wantNoSix(t *testing.T, s string) {
	t.Helper()
	if got, err := addrs.Six(s); got != (api.Addr{}) || err != api.ErrHost {
		t.Errorf("Six(%.60q): %v, %d, though it is none", s, got, err)
	}
}

func wantText(t *testing.T, a api.Addr, want string) {
	t.Helper()
	if got := addrs.Text(a); got != want {
		t.Errorf("Text(%v): %q, not %q", a, got, want)
	}
}

// madeOf: has a text of these bytes alone?
func madeOf(s, bytes string) bool { return strings.Trim(s, bytes) == "" }

// numberByWords is a part's number as the chapter's words have it, of any size.
func numberByWords(part string) (*big.Int, bool) {
	base, digits := 10, part
	switch {
	case strings.HasPrefix(part, "0x"), strings.HasPrefix(part, "0X"):
		base, digits = 16, part[2:]
		if digits == "" {
			return new(big.Int), true
		}
	case len(part) >= 2 && part[0] == '0':
		base = 8
	}
	if digits == "" || !madeOf(digits, map[int]string{8: "01234567", 10: "0123456789", 16: "0123456789abcdefABCDEF"}[base]) {
		return nil, false
	}
	return new(big.Int).SetString(digits, base)
}

// fourByWords parts the text whole, and asks of each part what the chapter's words ask.
func fourByWords(s string) (api.Addr, bool, api.Errno) {
	parts := strings.Split(s, ".")
	if n := len(parts); n > 1 && parts[n-1] == "" {
		parts = parts[:n-1]
	}
	n := len(parts)
	last := parts[n-1]
	_, told := numberByWords(last)
	hexadecimal := len(last) >= 2 && (last[:2] == "0x" || last[:2] == "0X")
	if !(last != "" && madeOf(last, "0123456789")) && !(hexadecimal && told) {
		return api.Addr{}, false, api.OK
	}
	var bytes []byte
	for i, part := range parts {
		number, told := numberByWords(part)
		room := 1
		if i == n-1 {
			room = 5 - n
		}
		if n > 4 || !told || number.BitLen() > 8*room {
			return api.Addr{}, true, api.ErrHost
		}
		bytes = append(bytes, number.FillBytes(make([]byte, room))...)
	}
	return four(bytes[0], bytes[1], bytes[2], bytes[3]), true, api.OK
}

// sixByLibrary reads by the library, which has zones beside what the chapter has, and addresses of four bytes.
func sixByLibrary(s string) (api.Addr, bool) {
	a, err := netip.ParseAddr(s)
	if err != nil || a.Is4() || strings.Contains(s, "%") {
		return api.Addr{}, false
	}
	return api.Addr{Six: true, Bytes: a.As16()}, true
}

// textByWords tells an address as the chapter's words have it: each run is looked at, the longest first.
func textByWords(a api.Addr) string {
	if !a.Six {
		b := a.Bytes
		return strings.Join([]string{strconv.Itoa(int(b[0])), strconv.Itoa(int(b[1])), strconv.Itoa(int(b[2])), strconv.Itoa(int(b[3]))}, ".")
	}
	var pieces []string
	for i := 0; i < 16; i += 2 {
		pieces = append(pieces, strconv.FormatUint(uint64(a.Bytes[i])<<8|uint64(a.Bytes[i+1]), 16))
	}
	for length := 8; length >= 2; length-- {
		for from := 0; from+length <= 8; from++ {
			run := pieces[from : from+length]
			if !slices.ContainsFunc(run, func(piece string) bool { return piece != "0" }) {
				return strings.Join(pieces[:from], ":") + "::" + strings.Join(pieces[from+length:], ":")
			}
		}
	}
	return strings.Join(pieces, ":")
}

// someTexts are made from a fixed seed: of parts with a sign between, so that many are nearly addresses.
func someTexts(seed int64, between string, most int, parts []string) []string {
	r := rand.New(rand.NewSource(seed))
	texts := []string{"", between}
	for range 40000 {
		var text strings.Builder
		for i := range 1 + r.Intn(most) {
			if i > 0 {
				text.WriteString(between)
			}
			text.WriteString(parts[r.Intn(len(parts))])
		}
		texts = append(texts, text.String())
	}
	return texts
}

// someAddrs are made from a fixed seed, with many noughts.
func someAddrs(seed int64) []api.Addr {
	r := rand.New(rand.NewSource(seed))
	list := []api.Addr{{}, {Six: true}}
	for i := range 20000 {
		a := api.Addr{Six: i%4 != 0}
		bytes := a.Bytes[:4]
		if a.Six {
			bytes = a.Bytes[:]
		}
		for k := range bytes {
			if k%2 == 1 && r.Intn(5) < 2 {
				bytes[k] = byte(r.Intn(256))
			} else if k%2 == 0 && r.Intn(5) == 0 {
				bytes[k] = byte(r.Intn(256))
			}
		}
		list = append(list, a)
	}
	return list
}

// P4.1: the chapter's examples.
func TestFourOfTheExamples(t *testing.T) {
	wantFour(t, "1.2.3.4", four(1, 2, 3, 4))
	wantFour(t, "0x7f.1", four(127, 0, 0, 1))
	wantFour(t, "017700000001", four(127, 0, 0, 1))
	wantFour(t, "4294967295", four(255, 255, 255, 255))
	wantFour(t, "1.2.3.4.", four(1, 2, 3, 4))
	wantFour(t, "0x", four(0, 0, 0, 0))
	for _, s := range []string{"a.b", "1.2.a", "", "."} {
		wantNoFour(t, s)
	}
	for _, s := range []string{"1.2.3.256", "256.1", "1.2.3.4.5", "1..2", "08", "4294967296", "a.1"} {
		wantFourRefused(t, s)
	}
}

// P4.1: each part's number, alone and among others.
func TestFourOfOneNumber(t *testing.T) {
	for s, want := range map[string]byte{
		"0": 0, "1": 1, "7": 7, "8": 8, "9": 9, "10": 10, "99": 99, "255": 255,
		"00": 0, "01": 1, "07": 7, "010": 8, "017": 15, "0377": 255, "000000": 0, "0000000000000000000000377": 255,
		"0x": 0, "0X": 0, "0x0": 0, "0xf": 15, "0xF": 15, "0Xf": 15, "0XF": 15, "0x10": 16, "0xff": 255, "0xFf": 255, "0XFF": 255,
		"0xa": 10, "0xA": 10, "0x9": 9, "0x00": 0, "0x08": 8, "0x0000000000000000000000ff": 255,
	} {
		wantFour(t, s, four(0, 0, 0, want))
		wantFour(t, s+".", four(0, 0, 0, want))
		wantFour(t, s+".1", four(want, 0, 0, 1))
		wantFour(t, "1."+s, four(1, 0, 0, want))
		wantFour(t, "1.2."+s, four(1, 2, 0, want))
		wantFour(t, "1."+s+".3.4", four(1, want, 3, 4))
		wantFour(t, "1.2."+s+".4.", four(1, 2, want, 4))
		wantFour(t, s+"."+s+"."+s+"."+s, four(want, want, want, want))
	}
}

// P4.1: one to five parts, and the bytes that the last one has.
func TestFourOfSoManyParts(t *testing.T) {
	wantFour(t, "16909060", four(1, 2, 3, 4))
	wantFour(t, "0x1020304", four(1, 2, 3, 4))
	wantFour(t, "0100401404", four(1, 2, 3, 4))
	wantFour(t, "1.131844", four(1, 2, 3, 4))
	wantFour(t, "1.2.772", four(1, 2, 3, 4))
	wantFour(t, "1.2.0x304", four(1, 2, 3, 4))
	wantFour(t, "01.0x2.3.4", four(1, 2, 3, 4))
	wantFour(t, "9.8", four(9, 0, 0, 8))
	wantFour(t, "9.8.7", four(9, 8, 0, 7))
	wantFourRefused(t, "0.0.0.0.0")
	wantFourRefused(t, "0.0.0.0.0.")
	wantFourRefused(t, "1.2.3.4.5.6.7.8.9")
	wantFourRefused(t, "0x.0x.0x.0x.0x")
}

// P4.1: below, at and above what each part has room for.
func TestFourAtTheBounds(t *testing.T) {
	for _, c := range []struct {
		ahead string
		bound int64
		most  api.Addr
	}{
		{"", 1 << 32, four(255, 255, 255, 255)},
		{"9.", 1 << 24, four(9, 255, 255, 255)},
		{"9.8.", 1 << 16, four(9, 8, 255, 255)},
		{"9.8.7.", 1 << 8, four(9, 8, 7, 255)},
	} {
		less := c.most
		less.Bytes[3]--
		for _, form := range []struct {
			prefix string
			base   int
		}{{"", 10}, {"0", 8}, {"0x", 16}, {"0X000", 16}, {"00000", 8}} {
			text := func(n int64) string { return c.ahead + form.prefix + strconv.FormatInt(n, form.base) }
			wantFour(t, text(c.bound-2), less)
			wantFour(t, text(c.bound-1), c.most)
			wantFour(t, text(c.bound-1)+".", c.most)
			for _, n := range []int64{c.bound, c.bound + 1, 1 << 32, 1<<32 + 1, 1 << 33, 1<<62 + 1, 1<<63 - 1} {
				wantFourRefused(t, text(n))
				wantFourRefused(t, text(n)+".")
			}
		}
	}
	for _, ahead := range []string{"256", "257", "0400", "0x100", "65535", "4294967296", "4294967297"} {
		for _, s := range []string{ahead + ".1", ahead + ".1.1", "1." + ahead + ".1", ahead + ".1.1.1", "1." + ahead + ".1.1", "1.1." + ahead + ".1", "1.1." + ahead + ".1."} {
			wantFourRefused(t, s)
		}
	}
	wantFour(t, "255.255.255.255", four(255, 255, 255, 255))
	wantFour(t, "255.255.65535", four(255, 255, 255, 255))
	wantFour(t, "255.16777215", four(255, 255, 255, 255))
}

// P4.1: numbers that would wrap round, were they worked out in so many bits; and noughts ahead, however many.
func TestFourOfManyDigits(t *testing.T) {
	noughts := strings.Repeat("0", 1<<20)
	wantFour(t, noughts, four(0, 0, 0, 0))
	wantFour(t, noughts+"377", four(0, 0, 0, 255))
	wantFour(t, "0x"+noughts+"1020304", four(1, 2, 3, 4))
	wantFour(t, noughts+"1."+noughts+"2.0x"+noughts+".4", four(1, 2, 0, 4))
	wantFourRefused(t, "1"+noughts)
	wantFourRefused(t, "0x1"+noughts)
	wantFourRefused(t, "01"+noughts)
	wantFourRefused(t, noughts+"8")
	wantFourRefused(t, noughts+"40000000000")
	wantFourRefused(t, "1.1"+noughts+".1")
	wantNoFour(t, "0x1"+noughts+"g")
	wantNoFour(t, "1"+noughts+"a")
	for _, bits := range []uint{32, 33, 63, 64, 65, 128, 256} {
		n := new(big.Int).Lsh(big.NewInt(1), bits)
		for range 3 {
			wantFourRefused(t, n.String())
			wantFourRefused(t, "0"+n.Text(8))
			wantFourRefused(t, "0x"+n.Text(16))
			wantFourRefused(t, "1.2.3."+n.String())
			wantFourRefused(t, n.String()+".2.3.4")
			n.Add(n, big.NewInt(1))
		}
	}
}

// P4.1: the last part alone says how a text looks.
func TestFourOfWhatDoesNotLookSo(t *testing.T) {
	for _, s := range []string{
		"", ".", "..", "...", "1..", "1.2.3.4..", "....", ".a", "a", "a.", "x", "0xg", "0Xg.", "0x1g", "0x-1", "1.0xg", "0x ", "0x1.a",
		"1a", "a1", "1.2.3.4a", "1.2.3.a4", "08a", "1 ", " 1", "1.2.3.4 ", "-1", "+1", "1_0", "1e3", "0b1", "0o7", "0b", "f", "ff", "xff", "x1",
		"1.2.3.4.a", "1.2.3.4.5.a", "256.a", "1..a", "..a", "localhost", "example.com", "1.2.3.4\x00", "\xff", "é", "1é", "١", "１", "1.2.3.４",
		"1,2", "1:2", "[1]", "::1", "0x0x1", "00x1", "0xx", "1/2", "1\n", "%31",
	} {
		wantNoFour(t, s)
	}
}

// P4.1: with the error, it is true.
func TestFourOfWhatIsRefused(t *testing.T) {
	for _, s := range []string{
		"08", "09", "018", "0008", "08.", "1.2.3.08", "1.09", "08.1", "1.08.1", "0x1.08", "1.2.0a.4",
		".1", "..1", "...1", ".1.", "1..2", "1..2.", "1...4", "1.2..4", ".2.3.4", "1.2.3..4",
		"a.1", "a.b.c.1", "1.a.1", "1.2.a.4", "0xg.1", "1.0xg.2", "-1.1", "+1.1", " 1.1", "1 .1", "\x00.1", "\xff.1", "é.1", "1é.1", "１.1",
		"a.0x", "a.0x1", "a.08", "x.0Xff", "0x1g.1", "1_0.1", "1e1.1", "0b1.1", "00x1.1", "0x0x.1", "f.1", "example.1", "example.com.0x7f.",
		"[1].1", "1,2.1", "1:2.1", "%31.1",
	} {
		wantFourRefused(t, s)
	}
}

// P4.1: each byte, as a part, as the last one, as a digit of each kind of number, and ahead of a number.
func TestFourOfEveryByte(t *testing.T) {
	for i := range 256 {
		c := string([]byte{byte(i)})
		for _, s := range []string{c, "1." + c, c + ".1", "1" + c, "1." + c + "1", "0" + c, "00" + c, "0" + c + "1", "0x" + c, "0x1" + c + "1", "0x" + c + ".1", c + "x1", "1.2.3.4" + c} {
			got, looks, err := addrs.Four(s)
			if want, looked, told := fourByWords(s); got != want || looks != looked || err != told {
				t.Errorf("Four(%q): %v, %v, %d, not %v, %v, %d", s, got, looks, err, want, looked, told)
			}
		}
	}
}

// P4.1
func TestFourIsByTheWords(t *testing.T) {
	parts := []string{
		"", "0", "1", "9", "10", "255", "256", "257", "65535", "65536", "16777215", "16777216", "4294967295", "4294967296", "99999999999999999999",
		"00", "01", "08", "0377", "0400", "037777777777", "040000000000", "0x", "0X", "0xf", "0xFF", "0x100", "0xffff", "0xffffffff", "0x100000000", "0xg", "0x08", "a", "-1", " ", "\xff",
	}
	var seen [3]int
	for _, s := range append(someTexts(1, ".", 6, parts), someTexts(2, ".", 4, parts[:12])...) {
		got, looks, err := addrs.Four(s)
		want, looked, told := fourByWords(s)
		if got != want || looks != looked || err != told {
			t.Fatalf("Four(%q): %v, %v, %d, not %v, %v, %d", s, got, looks, err, want, looked, told)
		}
		switch {
		case !looked:
			seen[0]++
		case told != api.OK:
			seen[1]++
		default:
			seen[2]++
		}
	}
	if slices.Min(seen[:]) < 1000 {
		t.Errorf("of one kind there are too few texts: %v", seen)
	}
}

// P4.2: the chapter's examples.
func TestSixOfTheExamples(t *testing.T) {
	wantSix(t, "::", six())
	wantSix(t, "1:2:3:4:5:6:7:8", six(1, 2, 3, 4, 5, 6, 7, 8))
	wantSix(t, "::1.2.3.4", six(0, 0, 0, 0, 0, 0, 0x102, 0x304))
	wantSix(t, "1::8", six(1, 0, 0, 0, 0, 0, 0, 8))
	wantSix(t, "1:2:3:4:5:6:7::", six(1, 2, 3, 4, 5, 6, 7, 0))
	for _, s := range []string{":1", "1:2", "1::2::3", "12345::", "1:2:3:4:5:6:7:8::", "::01.2.3.4", "1:", "::1.2.3"} {
		wantNoSix(t, s)
	}
}

// P4.2: so many pieces ahead of two colons, and so many behind them.
func TestSixOfTwoColonsAtEachPlace(t *testing.T) {
	for ahead := range 11 {
		for behind := range 11 {
			var first, last []string
			var pieces [8]int
			for i := range ahead {
				first = append(first, strconv.Itoa(i+1))
			}
			for i := range behind {
				last = append(last, strconv.Itoa(9-behind+i))
			}
			s := strings.Join(first, ":") + "::" + strings.Join(last, ":")
			if ahead+behind > 7 {
				wantNoSix(t, s)
				continue
			}
			for i := range ahead {
				pieces[i] = i + 1
			}
			for i := range behind {
				pieces[8-behind+i] = 9 - behind + i
			}
			wantSix(t, s, six(pieces[:]...))
		}
	}
}

// P4.2: so many pieces ahead of two colons, so many behind them, and four bytes.
func TestSixOfFourBytesAtTheEnd(t *testing.T) {
	for ahead := range 8 {
		for behind := range 8 {
			s := strings.Repeat("a:", ahead) + ":" + strings.Repeat("b:", behind) + "1.2.3.4"
			if ahead == 0 {
				s = ":" + s
			}
			if ahead+behind > 5 {
				wantNoSix(t, s)
				continue
			}
			pieces := [8]int{6: 0x102, 7: 0x304}
			for i := range ahead {
				pieces[i] = 0xa
			}
			for i := range behind {
				pieces[5-i] = 0xb
			}
			wantSix(t, s, six(pieces[:]...))
		}
	}
	wantSix(t, "1:2:3:4:5:6:7.8.9.10", six(1, 2, 3, 4, 5, 6, 0x708, 0x90a))
	wantSix(t, "::ffff:255.255.255.255", six(0, 0, 0, 0, 0, 0xffff, 0xffff, 0xffff))
	wantSix(t, "::0.0.0.0", six())
	for _, s := range []string{
		"1.2.3.4", "1:1.2.3.4", "1:2:3:4:5:1.2.3.4", "1:2:3:4:5:6:7:1.2.3.4", "1:2:3:4:5:6:7:8:1.2.3.4",
		"1.2.3.4::", "1:1.2.3.4::", "1.2.3.4::1", "1.2.3.4:1::", "::1.2.3.4:5", "::1.2.3.4::", "::1.2.3.4:", "1.2.3.4:1.2.3.4::", "::1.2.3.4:1.2.3.4",
		"1:2:3:4:1.2.3.4:5:6", "1.2.3.4:3:4:5:6:7:8", "1.2.3.4:1:2:3:4:5.6.7.8",
		"::1.2.3", "::1.2", "::1.", "::1.2.3.", "::1.2.3.4.", "::1.2.3.4.5", "::1.02.3.4.5", "::1.256.3.4.5", "::1.2.3.04.5", "::.1.2.3", "::.2.3.4", "::1..3.4", "::1.2..4", "::.", "::...", "1::.", ":1.2.3.4", ":::1.2.3.4",
		"::a.2.3.4", "::1.2.3.a", "::0x1.2.3.4", "::1.2.3.0x4", "::1.2.3.4a", "::1.2.3.-4", "::+1.2.3.4", "::1.2.3. 4", "::1.2.3.4 ", "::1:2.3.4.", "::f.f.f.f",
		"1:2:3:4:5:6:1.2.3", "1:2:3:4:5:6:1.2", "1:2:3:4:5:6:7.", "1:2:3:4:5:6:7:8.", "::1.2.3:4", "::1:2.3:4",
	} {
		wantNoSix(t, s)
	}
}

// P4.2: each number of a byte, at each place, and those above; a nought ahead.
func TestSixOfEachByte(t *testing.T) {
	for place := range 4 {
		at := func(text string) string {
			bytes := []string{"11", "22", "33", "44"}
			bytes[place] = text
			return "::" + strings.Join(bytes, ".")
		}
		for n := range 256 {
			want := six(0, 0, 0, 0, 0, 0, 0x0b16, 0x212c)
			want.Bytes[12+place] = byte(n)
			text := strconv.Itoa(n)
			wantSix(t, at(text), want)
			wantNoSix(t, at("0"+text))
			wantNoSix(t, at("00"+text))
		}
		for _, text := range []string{"256", "257", "260", "300", "512", "999", "1000", "1024", "2550", "65536", "4294967296", "18446744073709551616", "18446744073709551617", strings.Repeat("9", 100), strings.Repeat("0", 100), "", "00", "000"} {
			wantNoSix(t, at(text))
		}
	}
}

// P4.2: one to four digits, great and small letters, at each place.
func TestSixOfPieces(t *testing.T) {
	for text, piece := range map[string]int{
		"0": 0, "00": 0, "000": 0, "0000": 0, "1": 1, "01": 1, "001": 1, "0001": 1, "9": 9, "a": 10, "A": 10, "f": 15, "F": 15,
		"10": 16, "ff": 255, "fF": 255, "100": 256, "fff": 4095, "1000": 4096, "ffff": 65535, "FFFF": 65535, "aBcD": 0xabcd, "EF09": 0xef09, "1234": 0x1234, "5678": 0x5678,
	} {
		for place := range 8 {
			texts := strings.Split("1:2:3:4:5:6:7:8", ":")
			pieces := []int{1, 2, 3, 4, 5, 6, 7, 8}
			texts[place], pieces[place] = text, piece
			wantSix(t, strings.Join(texts, ":"), six(pieces...))
		}
		wantSix(t, "::"+text, six(0, 0, 0, 0, 0, 0, 0, piece))
		wantSix(t, text+"::", six(piece))
	}
	for _, text := range []string{"", "00000", "00001", "10000", "fffff", "12345", "123456789", strings.Repeat("0", 100), "g", "G", "x", "0x1", "-1", "+1", " 1", "1 ", "1g", "g1", "123g", "é", "\xff", "\x00", "%", "1%25", "[1]", "1.", ".1", ".", "1.2", "１"} {
		for place := range 8 {
			texts := strings.Split("1:2:3:4:5:6:7:8", ":")
			texts[place] = text
			if place == 0 || place == 7 || text != "" { // elsewhere, an empty one would stand for one piece
				wantNoSix(t, strings.Join(texts, ":"))
			}
		}
		if text != "" {
			wantNoSix(t, "::"+text)
			wantNoSix(t, text+"::")
			wantNoSix(t, "1::"+text+":2")
		}
	}
}

// P4.2: each byte, as a digit, between pieces, and at both ends.
func TestSixOfEveryByte(t *testing.T) {
	for i := range 256 {
		c := string([]byte{byte(i)})
		for _, s := range []string{c, "::" + c, "::1" + c, c + "::", c + "1::", "1" + c + "2:3:4:5:6:7:8", "1:2:3:4:5:6:7" + c + "8", "1:2:3:4:5:6:7:" + c, "::1.2.3." + c, "::1" + c + "2.3.4", "::1.2.3.4" + c, c + "::1.2.3.4", "1" + c + ":2", "1:" + c + "2"} {
			if want, ok := sixByLibrary(s); ok {
				wantSix(t, s, want)
			} else {
				wantNoSix(t, s)
			}
		}
	}
}

// P4.2
func TestSixOfWhatMayNotBe(t *testing.T) {
	for _, s := range []string{
		"", ":", ":::", "::::", ":::::::", "::::::::", "1", "f", ".", "..", "...", "....", "1:2", "1:2:3:4:5:6:7", "1:2:3:4:5:6:7:8:9", "1:2:3:4:5:6:7:8:", ":1:2:3:4:5:6:7:8", ":1:2:3:4:5:6:7", "1:2:3:4:5:6:7:",
		"1::2::3", "::1::", "::::1", "1::::", ":::1", "1:::", "1:::2", "1::2:", ":1::2", "1::2:::3", "::2::3", "1::2::", "1:2::3:4::5",
		"::1:2:3:4:5:6:7:8", "1:2:3:4:5:6:7:8::", "1:2:3:4::5:6:7:8", "::1:2:3:4:5:6:7:8:9", "1:2:3:4:5:6:7:8::9",
		"[::]", "[::1]", "::1%1", "::1%eth0", "::/0", "::1 ", " ::1", "1 ::", ":: 1", "a.b", "localhost", "\x00", "\xff", "::\x00", "::\xff", "：：", "1;2;3;4;5;6;7;8", "::1\n",
	} {
		wantNoSix(t, s)
	}
}

// P4.2
func TestSixIsAsTheLibrary(t *testing.T) {
	parts := []string{"", "0", "1", "9", "a", "F", "0000", "00ff", "ffff", "FFFF", "12ab", "12345", "g", "1.2.3.4", "255.255.255.255", "1.2.3", "256.1.1.1", "0.0.0.0", "01.2.3.4"}
	texts := someTexts(3, ":", 10, parts)
	texts = append(texts, someTexts(4, "::", 3, []string{"", "1", "1:2", "1:2:3", "1:2:3:4", "a:b:c:d:e", "0:0:0:0:0:0", "1.2.3.4", "1:1.2.3.4", ":"})...)
	texts = append(texts, someTexts(5, "", 16, []string{"1", "0", ":", "::", ".", "f", "g", "12", ":1", ":2", "3:"})...)
	good := 0
	for _, s := range texts {
		if want, ok := sixByLibrary(s); ok {
			good++
			wantSix(t, s, want)
		} else {
			wantNoSix(t, s)
		}
	}
	if good < 1000 {
		t.Errorf("only %d texts were addresses", good)
	}
}

// P4.3: the chapter's examples.
func TestTextOfTheExamples(t *testing.T) {
	wantText(t, four(1, 2, 3, 4), "1.2.3.4")
	for s, want := range map[string]string{"2001:DB8::0:1": "2001:db8::1", "1:0:0:2:0:0:0:3": "1:0:0:2::3", "1:0:2:3:4:5:6:7": "1:0:2:3:4:5:6:7", "::": "::"} {
		a, err := addrs.Six(s)
		if err != api.OK {
			t.Errorf("Six(%q): %d", s, err)
		}
		wantText(t, a, want)
	}
}

// P4.3
func TestTextOfFourBytes(t *testing.T) {
	wantText(t, api.Addr{}, "0.0.0.0")
	wantText(t, four(255, 255, 255, 255), "255.255.255.255")
	wantText(t, four(0, 10, 100, 9), "0.10.100.9")
	for n := range 256 {
		text := strconv.Itoa(n)
		b := byte(n)
		wantText(t, four(b, 255-b, b/2, b), text+"."+strconv.Itoa(255-n)+"."+strconv.Itoa(n/2)+"."+text)
	}
	full := api.Addr{}
	for i := range full.Bytes {
		full.Bytes[i] = byte(i + 1)
	}
	wantText(t, full, "1.2.3.4") // what stands behind the first four is no part of it
}

// P4.3: each choice of pieces that are 0.
func TestTextOfEveryRun(t *testing.T) {
	for choice := range 256 {
		var pieces [8]int
		for i := range pieces {
			if choice>>i&1 == 1 {
				pieces[i] = 0xA0 + i
			}
		}
		a := six(pieces[:]...)
		wantText(t, a, textByWords(a))
		wantText(t, a, netip.AddrFrom16(a.Bytes).String())
	}
}

// P4.3
func TestTextOfRuns(t *testing.T) {
	for _, c := range []struct {
		a    api.Addr
		want string
	}{
		{six(1, 2, 3, 4, 5, 6, 7, 8), "1:2:3:4:5:6:7:8"},
		{six(0, 2, 3, 4, 5, 6, 7, 8), "0:2:3:4:5:6:7:8"},
		{six(1, 2, 3, 4, 5, 6, 7, 0), "1:2:3:4:5:6:7:0"},
		{six(0, 2, 0, 4, 0, 6, 0, 8), "0:2:0:4:0:6:0:8"},
		{six(0, 0, 3, 4, 5, 6, 7, 8), "::3:4:5:6:7:8"},
		{six(1, 2, 3, 4, 5, 6, 0, 0), "1:2:3:4:5:6::"},
		{six(1, 2, 3, 0, 0, 6, 7, 8), "1:2:3::6:7:8"},
		{six(0, 0, 3, 0, 0, 6, 0, 0), "::3:0:0:6:0:0"},
		{six(1, 0, 0, 4, 5, 0, 0, 8), "1::4:5:0:0:8"},
		{six(0, 0, 3, 4, 5, 0, 0, 0), "0:0:3:4:5::"},
		{six(0, 0, 0, 4, 5, 0, 0, 0), "::4:5:0:0:0"},
		{six(0, 2, 0, 0, 5, 0, 0, 0), "0:2:0:0:5::"},
		{six(0, 0, 0, 0, 0, 0, 0, 1), "::1"},
		{six(1, 0, 0, 0, 0, 0, 0, 0), "1::"},
		{six(0, 1, 0, 0, 0, 0, 0, 0), "0:1::"},
		{six(0, 0, 0, 0, 0, 0, 1, 0), "::1:0"},
		{six(0xABCD, 0xEF, 0x10, 0x100, 0x1000, 0xffff, 0xF, 0xA0), "abcd:ef:10:100:1000:ffff:f:a0"},
		{six(0, 0, 0, 0, 0, 0xffff, 0x102, 0x304), "::ffff:102:304"},
		{six(0, 0, 0, 0, 0, 0, 0x102, 0x304), "::102:304"},
		{six(0x100, 0, 0, 1, 0, 0x100, 0, 0), "100::1:0:100:0:0"},
	} {
		wantText(t, c.a, c.want)
	}
}

// P4.3
func TestTextIsByTheWords(t *testing.T) {
	for _, a := range someAddrs(6) {
		wantText(t, a, textByWords(a))
	}
}

// P4.4
func TestAddressIsReadFromItsText(t *testing.T) {
	for _, a := range someAddrs(7) {
		text := addrs.Text(a)
		if a.Six {
			wantSix(t, text, a)
			wantNoFour(t, text)
		} else {
			wantFour(t, text, a)
			wantFour(t, text+".", a)
			wantSix(t, "::"+text, six(0, 0, 0, 0, 0, 0, int(a.Bytes[0])<<8|int(a.Bytes[1]), int(a.Bytes[2])<<8|int(a.Bytes[3])))
			wantNoSix(t, text)
		}
	}
	for choice := range 256 {
		var pieces [8]int
		for i := range pieces {
			pieces[i] = 0x1001 * (choice >> i & 1)
		}
		a := six(pieces[:]...)
		wantSix(t, addrs.Text(a), a)
	}
}

// P4.4: the text of what is read is read as the same.
func TestTextOfWhatIsRead(t *testing.T) {
	for _, s := range someTexts(8, ".", 4, []string{"0", "1", "0x7f", "010", "255", "256", "70000"}) {
		if a, looks, err := addrs.Four(s); looks && err == api.OK {
			wantFour(t, addrs.Text(a), a)
		}
	}
	for _, s := range someTexts(9, ":", 8, []string{"0", "1", "00ff", "", "ABCD", "1.2.3.4"}) {
		if a, err := addrs.Six(s); err == api.OK {
			wantSix(t, addrs.Text(a), a)
		}
	}
}

// R1: long texts end, too.
func TestLongTexts(t *testing.T) {
	const long = 1 << 20
	wantNoFour(t, strings.Repeat(".", long))
	wantNoFour(t, strings.Repeat("a.", long))
	wantFourRefused(t, strings.Repeat("1.", long))
	wantFourRefused(t, strings.Repeat(".", long)+"1")
	wantFourRefused(t, strings.Repeat("9", long))
	for _, part := range []string{":", "::", "1:", "1::", "1", ".", "1.", "::1.2.3.4", "\xff"} {
		wantNoSix(t, strings.Repeat(part, long))
		wantNoSix(t, "::"+strings.Repeat(part, long))
	}
}
