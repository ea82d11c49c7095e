package dates_test

import (
	"math"
	"math/rand"
	"regexp"
	"strconv"
	"strings"
	"testing"
	"time"

	"footman/dates"
)

const (
	firstSecond = -62135596800 // of the year 1
	lastSecond  = 253402300799 // of the year 9999
	form        = "Mon, 02 Jan 2006 15:04:05 GMT"
)

func wantCookie(t *testing.T, s string, want int) {
	t.Helper()
	if got, ok := dates.Cookie(s); got != want || !ok {
		t.Errorf("Cookie(%.80q): %d, %v, not %d, true", s, got, ok, want)
	}
}

func wantNoCookie(t *testing.T, s string) {
	t.Helper()
	if got, ok := dates.Cookie(s); got != 0 || ok {
		t.Errorf("Cookie(%.80q): %d, %v, not 0, false", s, got, ok)
	}
}

// wantCookieDay: the date that a cookie tells, at the beginning of that day.
func wantCookieDay(t *testing.T, s string, year, month, day int) {
	t.Helper()
	wantCookie(t, s, secondsOf(year, month, day, 0, 0, 0))
}

func wantText(t *testing.T, n int, want string) {
	t.Helper()
	if got, ok := dates.Text(n); got != want || !ok {
		t.Errorf("Text(%d): %q, %v, not %q, true", n, got, ok, want)
	}
}

func wantNoText(t *testing.T, n int) {
	t.Helper()
	if got, ok := dates.Text(n); got != "" || ok {
		t.Errorf("Text(%d): %q, %v, not empty, false", n, got, ok)
	}
}

func wantParse(t *testing.T, s string, want int) {
	t.Helper()
	if got, ok := dates.Parse(s); got != want || !ok {
		t.Errorf("Parse(%.80q): %d, %v, not %d, true", s, got, ok, want)
	}
}

func wantNoParse(t *testing.T, s string) {
	t.Helper()
	if got, ok := dates.Parse(s); got != 0 || ok {
		t.Errorf("Parse(%.80q): %d, %v, not 0, false", s, got, ok)
	}
}

func wantDay(t *testing.T, n int, want [4]int) {
	t.Helper()
	year, month, day, week := dates.Day(n)
	if got := [4]int{year, month, day, week}; got != want {
		t.Errorf("Day(%d): %v, not %v", n, got, want)
	}
}

func wantSeconds(t *testing.T, told [6]int, want int) {
	t.Helper()
	if got, ok := dates.Seconds(told[0], told[1], told[2], told[3], told[4], told[5]); got != want || !ok {
		t.Errorf("Seconds(%v): %d, %v, not %d, true", told, got, ok, want)
	}
}

func wantNoSeconds(t *testing.T, told [6]int) {
	t.Helper()
	if got, ok := dates.Seconds(told[0], told[1], told[2], told[3], told[4], told[5]); got != 0 || ok {
		t.Errorf("Seconds(%v): %d, %v, not 0, false", told, got, ok)
	}
}

// secondsOf asks the library, which also takes what is none.
func secondsOf(year, month, day, hour, minute, second int) int {
	return int(time.Date(year, time.Month(month), day, hour, minute, second, 0, time.UTC).Unix())
}

// dayOf asks the library.
func dayOf(n int) [4]int {
	at := time.Unix(int64(n), 0).UTC()
	return [4]int{at.Year(), int(at.Month()), at.Day(), int(at.Weekday())}
}

func oneByte(c byte) string { return string([]byte{c}) }

func standsBetween(c byte) bool {
	return c == 9 || 32 <= c && c <= 47 || 59 <= c && c <= 64 || 91 <= c && c <= 96 || 123 <= c && c <= 126
}

var (
	timeWord  = regexp.MustCompile(`^([0-9]{1,2}):([0-9]{1,2}):([0-9]{1,2})(?:[^0-9]|$)`)
	dayWord   = regexp.MustCompile(`^([0-9]{1,2})(?:[^0-9]|$)`)
	monthWord = regexp.MustCompile(`^(?i)(jan|feb|mar|apr|may|jun|jul|aug|sep|oct|nov|dec)`)
	yearWord  = regexp.MustCompile(`^([0-9]{2,4})(?:[^0-9]|$)`)
)

func wordsOf(s string) []string {
	var words []string
	word := ""
	for i := range len(s) {
		if !standsBetween(s[i]) {
			word += s[i : i+1]
		} else if word != "" {
			words = append(words, word)
			word = ""
		}
	}
	return append(words, word)
}

// cookieByWords does what the chapter's words say, in their order.
func cookieByWords(s string) (int, bool) {
	var clock, day, month, year []string
	for _, word := range wordsOf(s) {
		if m := timeWord.FindStringSubmatch(word); clock == nil && m != nil {
			clock = m[1:]
		} else if m := dayWord.FindStringSubmatch(word); day == nil && m != nil {
			day = m[1:]
		} else if m := monthWord.FindStringSubmatch(word); month == nil && m != nil {
			month = m[1:]
		} else if m := yearWord.FindStringSubmatch(word); year == nil && m != nil {
			year = m[1:]
		}
	}
	if clock == nil || day == nil || month == nil || year == nil {
		return 0, false
	}
	y := number(year[0])
	if 70 <= y && y <= 99 {
		y += 1900
	} else if y <= 69 {
		y += 2000
	}
	mo := strings.Index("janfebmaraprmayjunjulaugsepoctnovdec", strings.ToLower(month[0]))/3 + 1
	d, h, mi, sec := number(day[0]), number(clock[0]), number(clock[1]), number(clock[2])
	n := secondsOf(y, mo, d, h, mi, sec)
	if y < 1601 || dayOf(n)[0] != y || dayOf(n)[1] != mo || dayOf(n)[2] != d || h > 23 || mi > 59 || sec > 59 {
		return 0, false
	}
	return n, true
}

func number(s string) int {
	n, err := strconv.Atoi(s)
	if err != nil {
		panic(err)
	}
	return n
}

// checkCookie holds an answer against the chapter's words.
func checkCookie(t *testing.T, s string) {
	t.Helper()
	want, wantOK := cookieByWords(s)
	if got, ok := dates.Cookie(s); got != want || ok != wantOK {
		t.Errorf("Cookie(%.80q): %d, %v, not %d, %v", s, got, ok, want, wantOK)
	}
}

// checkParse holds an answer against the library's form, which must tell the same text again.
func checkParse(t *testing.T, s string) {
	t.Helper()
	at, err := time.Parse(form, s)
	if n := int(at.Unix()); err == nil && at.UTC().Format(form) == s && 0 <= n && n <= lastSecond {
		wantParse(t, s, n)
	} else {
		wantNoParse(t, s)
	}
}

// P7.1, P7.2, P7.3: each row of the chapter's examples.
func TestExamples(t *testing.T) {
	wantCookie(t, "Wed, 09 Jun 2021 10:18:14 GMT", 1623233894)
	wantCookie(t, "Sunday, 06-Nov-94 08:49:37 GMT", 784111777)
	wantCookie(t, "Sun Nov  6 08:49:37 1994", 784111777)
	wantCookie(t, "1 jan 70 0:0:0", 0)
	wantCookie(t, "31 Dec 69 0:0:0", 3155673600)
	wantCookie(t, "00:00:00 1x janus 1970z", 0)
	for _, s := range []string{"30 Feb 2000 0:0:0", "1 Jan 2000", "1 Jan 1600 0:0:0", "1 Jan 2000 24:0:0", ""} {
		wantNoCookie(t, s)
	}
	wantText(t, 784111777, "Sun, 06 Nov 1994 08:49:37 GMT")
	wantText(t, 0, "Thu, 01 Jan 1970 00:00:00 GMT")
	wantNoText(t, -1)
	wantParse(t, "Sun, 06 Nov 1994 08:49:37 GMT", 784111777)
	wantNoParse(t, "Mon, 06 Nov 1994 08:49:37 GMT")
	wantDay(t, 784111777, [4]int{1994, 11, 6, 0})
	wantDay(t, -1, [4]int{1969, 12, 31, 3})
	wantDay(t, -62135596800, [4]int{1, 1, 1, 1})
	wantDay(t, -62135596801, [4]int{})
	wantSeconds(t, [6]int{2000, 2, 29, 0, 0, 0}, 951782400)
	wantNoSeconds(t, [6]int{1900, 2, 29, 0, 0, 0})
	wantNoSeconds(t, [6]int{10000, 1, 1, 0, 0, 0})
	wantNoSeconds(t, [6]int{2000, 1, 1, 0, 0, 60})
}

// P7.1: each byte stands between words, or does not.
func TestCookieBetween(t *testing.T) {
	for c := range 256 {
		b := oneByte(byte(c))
		if s := "1" + b + "jan" + b + "1970" + b + "0:0:0"; standsBetween(byte(c)) {
			wantCookie(t, s, 0)
			wantCookie(t, b+s+b, 0)
			wantCookie(t, strings.ReplaceAll(s, b, b+b+b), 0)
		} else {
			wantNoCookie(t, s)
		}
		checkCookie(t, "1"+b+"5 jan 1970 0:0:0")
		checkCookie(t, "1 jan 1970 0:0:0"+b+"7")
		checkCookie(t, "1 ja"+b+"n 1970 0:0:0")
	}
	wantNoCookie(t, "1jan19700:0:0")
	wantCookie(t, " \t1,;jan-/-1970 ~{[0:0:0]}", 0)
	wantCookie(t, "1-jan-70~00:00:00", 0)
}

// P7.1: bytes above 127 are of words, in UTF-8 or not.
func TestCookieHighBytes(t *testing.T) {
	for _, s := range []string{"é", "\xff", "\xc3", "\u2003", "\u00a0", "\xa0", "\x85", "日本"} {
		wantNoCookie(t, s)
		wantNoCookie(t, "1"+s+"jan"+s+"1970"+s+"0:0:0")
		wantNoCookie(t, s+"1 jan 1970 0:0:0")
		wantCookie(t, "1"+s+" jan"+s+" 1970"+s+" 0:0:0"+s, 0)
		wantCookie(t, s+" 1 jan "+s+" 1970 0:0:0 "+s, 0)
	}
	wantCookie(t, "\xc3 1 \xc3 jan\xff 1970\xc3-0:0:0", 0)
	wantNoCookie(t, "1 j\u00e4n 1970 0:0:0")
	wantNoCookie(t, "1 \u017fep 1970 0:0:0") // a long s, which is no letter here
	wantNoCookie(t, "\uff11 jan 1970 0:0:0") // a digit as wide as two, which is none here
}

// P7.1: a word is the first that it can be and that none ahead of it is.
func TestCookieFirst(t *testing.T) {
	// What could be a time, a day and a year, is a time, then a day, then a year.
	wantCookie(t, "10:11:12 13:14:15 jan 70:0", secondsOf(1970, 1, 13, 10, 11, 12))
	wantCookieDay(t, "0:0:0 02:02:02 jan 03:03:03", 2003, 1, 2)
	wantCookieDay(t, "0:0:0 10 jan 11 12 13", 2011, 1, 10)
	// A second one of each says nothing.
	wantCookieDay(t, "0:0:0 1 jan 1970 feb", 1970, 1, 1)
	wantCookieDay(t, "0:0:0 1 jan feb mar 1970 2 2:2:2 mar 1971", 1970, 1, 1)
	wantCookieDay(t, "0:0:0 1 jan 02:2:2x", 2002, 1, 1)
	wantNoCookie(t, "0:0:0 1 jan 2:2:2x")
	// What none can be stands in nobody's way.
	wantCookieDay(t, "x 5y 0:0:0 : 7: jan 70 - 0 :1 12345", 1970, 1, 5)
	// The first one holds, even if there is no such hour, day or year.
	wantNoCookie(t, "24:0:0 1 jan 1970 0:0:0")
	wantNoCookie(t, "0 0:0:0 1 jan 1970")
	wantNoCookie(t, "32 0:0:0 1 jan 1970")
	wantNoCookie(t, "1 0:0:0 jan 1600 1970")
	// A time that stands behind another one may be the day.
	wantCookieDay(t, "0:0:0 1:0:0 jan 1970", 1970, 1, 1)
	// A year of two digits ahead of the day is the day.
	wantNoCookie(t, "70 jan 1 0:0:0")
	wantCookieDay(t, "10 jan 1 11 0:0:0", 2011, 1, 10)
	wantCookieDay(t, "1970 1 jan 0:0:0", 1970, 1, 1)
}

// P7.1: one that is not told.
func TestCookieMissing(t *testing.T) {
	words := []string{"0:0:0", "1", "jan", "1970"}
	for skip := range words {
		var left []string
		for i, word := range words {
			if i != skip {
				left = append(left, word)
			}
		}
		wantNoCookie(t, strings.Join(left, " "))
		for _, word := range words {
			wantNoCookie(t, word)
		}
	}
	wantCookie(t, strings.Join(words, " "), 0)
}

// P7.1: in any order that lets each word be what it is.
func TestCookieOrder(t *testing.T) {
	words := []string{"0:0:0", "1", "jan", "1970"}
	for a := range words {
		for b := range words {
			for c := range words {
				for d := range words {
					if 1<<a|1<<b|1<<c|1<<d == 15 {
						wantCookie(t, words[a]+" "+words[b]+" "+words[c]+" "+words[d], 0)
					}
				}
			}
		}
	}
}

// P7.1: how many digits a time has, and what stands behind.
func TestCookieTime(t *testing.T) {
	for s, want := range map[string]int{"0:0:0": 0, "00:00:00": 0, "1:2:3": 3723, "01:2:03": 3723, "1:02:3": 3723, "23:59:59": 86399,
		"1:2:3:": 3723, "1:2:3:4": 3723, "1:2:3x99": 3723, "1:2:03z": 3723, "1:2:3\x00": 3723, "+1:2:3": 3723, "1:2:03:100": 3723} {
		wantCookie(t, s+" 1 jan 1970", want)
		wantCookie(t, "1 jan 1970 "+s, want)
	}
	for _, s := range []string{"000:0:0", "0:000:0", "0:0:000", "0:0:123", "100:00:00", ":0:0", "0::0", "0:0:", "0:0", "0", "x0:0:0", "0x:0:0", "0:0x:0", "0:x0:0", "0:0:x0",
		"-:0:0", "0.0.0", "0 :0:0", "0: 0:0", "0:0: 0", "24:0:0", "0:60:0", "0:0:60", "99:99:99", "::", ":::", "0:0\x00:0", "00:00:000x"} {
		wantNoCookie(t, "1 jan 1970 "+s)
	}
	wantCookie(t, "1 jan 1970 23:59:59", 86399)
	wantNoCookie(t, "1 jan 1970 23:59:60")
	wantNoCookie(t, "1 jan 1970 23:60:59")
	wantNoCookie(t, "1 jan 1970 24:00:00")
}

// P7.1: how many digits a day has, and what stands behind; which days a month has.
func TestCookieDay(t *testing.T) {
	for s, day := range map[string]int{"1": 1, "01": 1, "9": 9, "31": 31, "1st": 1, "31x9": 31, "02:": 2, "3:4": 3, "4\x00": 4, "5\xff": 5, "6th7": 6} {
		wantCookieDay(t, "0:0:0 "+s+" jan 1970", 1970, 1, day)
		wantCookieDay(t, s+" jan 1970 0:0:0", 1970, 1, day)
	}
	for _, s := range []string{"0", "00", "32", "99", "001", "123", "1234", "x1", ":1", "0x", "32nd", "é1"} {
		wantNoCookie(t, s+" jan 1970 0:0:0")
	}
	for month, name := range []string{"jan", "feb", "mar", "apr", "may", "jun", "jul", "aug", "sep", "oct", "nov", "dec"} {
		for _, year := range []int{1900, 2000, 2001, 2004, 1601, 9999, 9996} {
			last := time.Date(year, time.Month(month+2), 0, 0, 0, 0, 0, time.UTC).Day()
			for day := 1; day <= 40; day++ {
				if s := strconv.Itoa(day) + " " + name + " " + strconv.Itoa(year) + " 0:0:0"; day <= last {
					wantCookieDay(t, s, year, month+1, day)
				} else {
					wantNoCookie(t, s)
				}
			}
		}
	}
}

// P7.1: months in small and great letters, and with more behind.
func TestCookieMonth(t *testing.T) {
	for month, name := range []string{"Jan", "Feb", "Mar", "Apr", "May", "Jun", "Jul", "Aug", "Sep", "Oct", "Nov", "Dec"} {
		for great := range 8 {
			b := []byte(strings.ToLower(name))
			for i := range b {
				if great>>i&1 == 1 {
					b[i] -= 'a' - 'A'
				}
			}
			for _, behind := range []string{"", "x", "1", "uary", ":", "\x00", "\xff", "é", "0:0:0"} {
				wantCookieDay(t, "1 "+string(b)+behind+" 1970 0:0:0", 1970, month+1, 1)
			}
		}
		for _, wrong := range []string{name[:2], name[:1], "x" + name, name[1:], name[:2] + "x", name[:1] + " " + name[1:], "0" + name, name[:2] + ":"} {
			wantNoCookie(t, "1 "+wrong+" 1970 0:0:0")
		}
	}
	// The first month holds.
	wantCookieDay(t, "1 decjan 1970 0:0:0", 1970, 12, 1)
	wantCookieDay(t, "1 marjan jan 1970 0:0:0", 1970, 3, 1)
	// Bytes that differ from letters as great letters from small ones do.
	wantNoCookie(t, "1 \x0aan 1970 0:0:0")
	wantNoCookie(t, "1 J\x01N 1970 0:0:0")
}

// P7.1: years of one to five digits, and what stands behind.
func TestCookieYear(t *testing.T) {
	for s, year := range map[string]int{"00": 2000, "01": 2001, "68": 2068, "69": 2069, "70": 1970, "71": 1971, "99": 1999, "000": 2000, "069": 2069, "070": 1970, "099": 1999,
		"0000": 2000, "0069": 2069, "0070": 1970, "0099": 1999, "1601": 1601, "1602": 1602, "1970": 1970, "9999": 9999, "70z": 1970, "1970x1": 1970, "1970:": 1970, "69:70": 2069, "1970\xff": 1970} {
		wantCookieDay(t, "1 jan "+s+" 0:0:0", year, 1, 1)
		wantCookieDay(t, "1 jan 0:0:0 "+s, year, 1, 1)
	}
	for _, s := range []string{"0", "7", "7x", "100", "0100", "101", "999", "1000", "1599", "1600", "01970", "19700", "10000", "00000", "x70", "-", ":70", "100x", strings.Repeat("0", 100) + "1970"} {
		wantNoCookie(t, "1 jan "+s+" 0:0:0")
	}
	wantCookie(t, "1 jan 1601 0:0:0", -11644473600)
	wantCookie(t, "31 dec 9999 23:59:59", lastSecond)
}

// P7.1: leap days.
func TestCookieLeap(t *testing.T) {
	for year, leap := range map[int]bool{1604: true, 1700: false, 1800: false, 1900: false, 1970: false, 1996: true, 1999: false, 2000: true, 2023: false, 2024: true, 2100: false, 2400: true, 9996: true, 9999: false} {
		if s := "29 feb " + strconv.Itoa(year) + " 0:0:0"; leap {
			wantCookieDay(t, s, year, 2, 29)
		} else {
			wantNoCookie(t, s)
		}
		wantCookieDay(t, "28 feb "+strconv.Itoa(year)+" 0:0:0", year, 2, 28)
		wantNoCookie(t, "30 feb "+strconv.Itoa(year)+" 0:0:0")
	}
}

// P7.1: what tells nothing at all.
func TestCookieWrong(t *testing.T) {
	separators := ""
	for c := range 256 {
		if standsBetween(byte(c)) {
			separators += oneByte(byte(c))
		}
	}
	for _, s := range []string{"", " ", separators, strings.Repeat(separators, 1000), "0", "1234567890", strings.Repeat("1", 100000), strings.Repeat("1 ", 100000), strings.Repeat(":", 100000),
		strings.Repeat("1:", 100000), strings.Repeat("jan", 50000), strings.Repeat("\xff", 100000), strings.Repeat("é ", 50000), "\x00", "\xff\xfe", "GMT", "1 jan 1970 0:0:0"[1:]} {
		wantNoCookie(t, s)
	}
	wantCookie(t, strings.Repeat(" ", 100000)+"1 jan 1970 0:0:0"+strings.Repeat(" x", 100000), 0)
}

// P7.1: texts of pieces that matter, by chance, each held against the chapter's words.
func TestCookieByWords(t *testing.T) {
	chance := rand.New(rand.NewSource(7))
	pieces := []string{"0", "1", "2", "3", "9", "12", "29", "31", "69", "70", "99", "100", "1600", "1601", "1970", "2000", "10000", ":", "0:0:0", "23:59:59", "24:0:0", "1:2", "jan", "FEB", "Feb", "dEc", "ja", "x", "é", "\xff", "\x00", " ", " ", " ", " ", " ", " ", ",", "-", ";", "\t", "\n", "~", "GMT"}
	told := 0
	for range 200000 {
		s := ""
		for range 1 + chance.Intn(14) {
			s += pieces[chance.Intn(len(pieces))]
		}
		checkCookie(t, s)
		words := []string{pieces[chance.Intn(17)], []string{"jan", "FEB", "dEcember"}[chance.Intn(3)], pieces[chance.Intn(17)], []string{"0:0:0", "23:59:59", "1:2:3x"}[chance.Intn(3)], s}
		chance.Shuffle(len(words), func(i, j int) { words[i], words[j] = words[j], words[i] })
		s = strings.Join(words, " ")
		checkCookie(t, s)
		if _, ok := dates.Cookie(s); ok {
			told++
		}
	}
	if told < 10000 {
		t.Errorf("only %d texts tell a date", told)
	}
}

// P7.2: at the edges, and by chance against the library.
func TestText(t *testing.T) {
	wantText(t, 0, "Thu, 01 Jan 1970 00:00:00 GMT")
	wantText(t, 1, "Thu, 01 Jan 1970 00:00:01 GMT")
	wantText(t, 86399, "Thu, 01 Jan 1970 23:59:59 GMT")
	wantText(t, 86400, "Fri, 02 Jan 1970 00:00:00 GMT")
	wantText(t, 951782400, "Tue, 29 Feb 2000 00:00:00 GMT")
	wantText(t, lastSecond, "Fri, 31 Dec 9999 23:59:59 GMT")
	for _, n := range []int{-1, -2, -86400, firstSecond, firstSecond - 1, math.MinInt, lastSecond + 1, lastSecond + 86400, 1<<40 - 1, math.MaxInt} {
		wantNoText(t, n)
	}
	chance := rand.New(rand.NewSource(8))
	for range 100000 {
		n := chance.Intn(lastSecond + 1)
		wantText(t, n, time.Unix(int64(n), 0).UTC().Format(form))
	}
}

// P7.2: Parse answers what Text answers, and nothing else.
func TestParse(t *testing.T) {
	for _, n := range []int{0, 59, 784111777, 951782400, 4107542399, lastSecond} {
		text, _ := dates.Text(n)
		wantParse(t, text, n)
		for i := range len(text) {
			for c := range 256 {
				checkParse(t, text[:i]+oneByte(byte(c))+text[i+1:])
				wantNoParse(t, text[:i]+oneByte(byte(c))+text[i:])
			}
			wantNoParse(t, text[:i]+text[i+1:])
			wantNoParse(t, text[:i])
			wantNoParse(t, text[i+1:])
		}
		for c := range 256 {
			wantNoParse(t, text+oneByte(byte(c)))
		}
		wantNoParse(t, strings.ToLower(text))
		wantNoParse(t, strings.ToUpper(text))
		wantNoParse(t, text+text)
		wantNoParse(t, strings.ReplaceAll(text, " ", "  "))
	}
	for _, s := range []string{"", " ", "GMT", "0", "Sunday, 06-Nov-94 08:49:37 GMT", "Sun Nov  6 08:49:37 1994", "Wed, 31 Dec 1969 23:59:59 GMT", "Mon, 01 Jan 1601 00:00:00 GMT", "Sat, 01 Jan 10000 00:00:00 GMT",
		"Wed, 30 Feb 2000 00:00:00 GMT", "Sun, 6 Nov 1994 08:49:37 GMT", "Sun, 06 Nov 94 08:49:37 GMT", "Sat, 01 Jan 2000 24:00:00 GMT", "Sat, 01 Jan 2000 00:60:00 GMT", "Sat, 01 Jan 2000 00:00:60 GMT",
		"Sat, 00 Jan 2000 00:00:00 GMT", "Tue, 29 Feb 1900 00:00:00 GMT", "Thu, 01 Jan 0070 00:00:00 GMT", "1 jan 1970 0:0:0", strings.Repeat("\xff", 29), strings.Repeat("0", 29), strings.Repeat(" ", 29), strings.Repeat("1 ", 100000)} {
		wantNoParse(t, s)
	}
	wantParse(t, "Sat, 01 Jan 2000 00:00:00 GMT", 946684800)
}

// P7.3: the edges of the years, of days, of numbers.
func TestDay(t *testing.T) {
	wantDay(t, firstSecond, [4]int{1, 1, 1, 1})
	wantDay(t, firstSecond+86399, [4]int{1, 1, 1, 1})
	wantDay(t, firstSecond+86400, [4]int{1, 1, 2, 2})
	wantDay(t, secondsOf(1, 12, 31, 23, 59, 59), [4]int{1, 12, 31, 1})
	wantDay(t, secondsOf(2, 1, 1, 0, 0, 0), [4]int{2, 1, 1, 2})
	wantDay(t, secondsOf(9999, 1, 1, 0, 0, 0)-1, [4]int{9998, 12, 31, 4})
	wantDay(t, secondsOf(9999, 1, 1, 0, 0, 0), [4]int{9999, 1, 1, 5})
	wantDay(t, lastSecond, [4]int{9999, 12, 31, 5})
	wantDay(t, lastSecond-86400, [4]int{9999, 12, 30, 4})
	wantDay(t, 0, [4]int{1970, 1, 1, 4})
	wantDay(t, 86399, [4]int{1970, 1, 1, 4})
	wantDay(t, 86400, [4]int{1970, 1, 2, 5})
	wantDay(t, -86400, [4]int{1969, 12, 31, 3})
	wantDay(t, -86401, [4]int{1969, 12, 30, 2})
	for _, n := range []int{firstSecond - 1, firstSecond - 86400, lastSecond + 1, lastSecond + 86400, 1<<40 - 1, math.MaxInt, math.MaxInt - 86400, math.MinInt, math.MinInt + 86400, -1 << 40} {
		wantDay(t, n, [4]int{})
	}
	chance := rand.New(rand.NewSource(9))
	for range 100000 {
		n := firstSecond + chance.Intn(lastSecond-firstSecond+1)
		wantDay(t, n, dayOf(n))
	}
}

// P7.3: one number of six at each edge, and beyond.
func TestSeconds(t *testing.T) {
	wantSeconds(t, [6]int{1, 1, 1, 0, 0, 0}, firstSecond)
	wantSeconds(t, [6]int{9999, 12, 31, 23, 59, 59}, lastSecond)
	wantSeconds(t, [6]int{1970, 1, 1, 0, 0, 0}, 0)
	wantSeconds(t, [6]int{1969, 12, 31, 23, 59, 59}, -1)
	wantSeconds(t, [6]int{1994, 11, 6, 8, 49, 37}, 784111777)
	least, most := [6]int{1, 1, 1, 0, 0, 0}, [6]int{9999, 12, 30, 23, 59, 59}
	for i := range least {
		for _, n := range []int{-1, 0, 1, 2, 11, 12, 13, 22, 23, 24, 28, 29, 30, 31, 32, 58, 59, 60, 61, 9998, 9999, 10000, -12, -100, 1 << 31, 1 << 32, 1<<32 + 1, 1 << 62, math.MaxInt, math.MinInt, math.MinInt + 1} {
			told := [6]int{2004, 4, 15, 12, 30, 30}
			told[i] = n
			if least[i] <= n && n <= most[i] {
				wantSeconds(t, told, secondsOf(told[0], told[1], told[2], told[3], told[4], told[5]))
			} else {
				wantNoSeconds(t, told)
			}
			for j := range least {
				if beyond := told; n < least[i] || n > max(most[i], 31) {
					beyond[j] = n
					wantNoSeconds(t, beyond)
				}
			}
		}
	}
	wantNoSeconds(t, [6]int{})
	wantNoSeconds(t, [6]int{0, 1, 1, 0, 0, 0})
	wantNoSeconds(t, [6]int{-4, 2, 29, 0, 0, 0})
}

// P7.3: the last days of months, in each kind of year.
func TestSecondsMonths(t *testing.T) {
	for _, year := range []int{1, 4, 100, 400, 1900, 1999, 2000, 2004, 2100, 9996, 9999} {
		for month := 0; month <= 13; month++ {
			for day := -1; day <= 33; day++ {
				told, n := [6]int{year, month, day, 1, 2, 3}, secondsOf(year, month, day, 1, 2, 3)
				if at := dayOf(n); [3]int(at[:3]) == [3]int(told[:3]) {
					wantSeconds(t, told, n)
				} else {
					wantNoSeconds(t, told)
				}
			}
		}
	}
}

// P7.4: Parse and Cookie of Text are its seconds.
func TestTextBack(t *testing.T) {
	chance := rand.New(rand.NewSource(10))
	for i := range 100000 {
		n := chance.Intn(lastSecond + 1)
		if i < 1000 {
			n = []int{i, lastSecond - i, i * 86400, lastSecond - i*86400}[i%4]
		}
		text, ok := dates.Text(n)
		if !ok {
			t.Fatalf("Text(%d): false", n)
		}
		wantParse(t, text, n)
		wantCookie(t, text, n)
	}
}

// P7.3, P7.4: each day that there is, from the first one on, against the library; Seconds of Day is when it begins, and a day later the day of the week is the next one.
func TestEveryDay(t *testing.T) {
	before := 0
	for n := firstSecond; n <= lastSecond && !t.Failed(); n += 86400 {
		year, month, day, week := dates.Day(n)
		if [4]int{year, month, day, week} != dayOf(n) || week != (before+1)%7 {
			t.Errorf("Day(%d): %d %d %d %d", n, year, month, day, week)
		}
		wantDay(t, n+86399, [4]int{year, month, day, week})
		wantSeconds(t, [6]int{year, month, day, 0, 0, 0}, n)
		before = week
	}
}

// R5: what was asked before changes nothing.
func TestAgain(t *testing.T) {
	wantNoCookie(t, "1 jan 1970")
	wantNoCookie(t, "0:0:0")
	wantCookie(t, "1 jan 1970 0:0:0", 0)
	wantNoCookie(t, "1 jan 1970")
	wantCookie(t, "1 jan 1970 0:0:0", 0)
}

func FuzzCookie(f *testing.F) {
	f.Add("Wed, 09 Jun 2021 10:18:14 GMT")
	f.Add("00:00:00 1x janus 1970z")
	f.Fuzz(func(t *testing.T, s string) {
		checkCookie(t, s)
		checkParse(t, s)
	})
}
