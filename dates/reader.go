package dates

import (
	"strings"

	"footman/ascii"
)

// What a word may be, in the order in which that is tried.
const (
	aTime = iota
	aDay
	aMonth
	aYear
	kinds
)

const (
	// betweens stand between words.
	betweens = "\t !\"#$%&'()*+,-./;<=>?@[\\]^_`{|}~"
	digits   = "0123456789"
	colon    = ":"

	clockParts   = 3
	monthLetters = 3
	// firstCookieYear is the first whose dates a cookie may tell.
	firstCookieYear = 1601
)

// reader reads a cookie's date, word for word.
type reader struct {
	rest  string
	told  [kinds]bool
	clock [clockParts]int // hour, minute, second
	day   int
	month int
	year  int
}

func readerOf(s string) *reader { return &reader{rest: s} }

// seconds: false: the words do not tell a date.
func (r *reader) seconds() (int, bool) {
	ways := r.ways()
	for r.rest != "" {
		r.read(r.cutWord(), ways)
	}
	everything := [kinds]bool{aTime: true, aDay: true, aMonth: true, aYear: true}
	if r.told != everything || r.year < firstCookieYear {
		return 0, false
	}
	return Seconds(r.year, r.month, r.day, r.clock[0], r.clock[1], r.clock[2])
}

// ways: each reads a word as what it may be, or answers false and has changed nothing.
func (r *reader) ways() [kinds]func(word string) bool {
	return [kinds]func(word string) bool{aTime: r.readTime, aDay: r.readDay, aMonth: r.readMonth, aYear: r.readYear}
}

// cutWord answers an empty word, which nothing reads, where nothing but what stands between words is left.
func (r *reader) cutWord() string {
	text := strings.TrimLeft(r.rest, betweens)
	end := strings.IndexAny(text, betweens)
	if end < 0 {
		end = len(text)
	}
	r.rest = text[end:]
	return text[:end]
}

// read: what a word ahead was, this one is not, even if it could be.
func (r *reader) read(word string, ways [kinds]func(word string) bool) {
	for kind, way := range ways {
		if !r.told[kind] && way(word) {
			r.told[kind] = true
			return
		}
	}
}

func (r *reader) readTime(word string) bool {
	parts := strings.SplitN(word, colon, clockParts)
	if len(parts) < clockParts {
		return false
	}
	var clock [clockParts]int
	for i, part := range parts {
		number, behind, ok := cutNumber(part, 1, 2)
		last := i == len(parts)-1
		if !ok || behind != "" && !last {
			return false
		}
		clock[i] = number
	}
	r.clock = clock
	return true
}

func (r *reader) readDay(word string) bool {
	day, _, ok := cutNumber(word, 1, 2)
	if ok {
		r.day = day
	}
	return ok
}

func (r *reader) readMonth(word string) bool {
	if len(word) < monthLetters {
		return false
	}
	for month, name := range monthNames {
		if ascii.Same(word[:monthLetters], name) {
			r.month = month
			return true
		}
	}
	return false
}

func (r *reader) readYear(word string) bool {
	year, _, ok := cutNumber(word, 2, 4)
	if ok {
		r.year = wholeYear(year)
	}
	return ok
}

// wholeYear asks of the number, not of how many digits told it: 0070 is 1970, too.
func wholeYear(year int) int {
	switch {
	case year < 70:
		return 2000 + year
	case year < 100:
		return 1900 + year
	}
	return year
}

// cutNumber: the number that the digits ahead tell, all of them, and what stands behind; false: they are fewer than least, or more than most.
func cutNumber(s string, least, most int) (number int, behind string, ok bool) {
	behind = strings.TrimLeft(s, digits)
	count := len(s) - len(behind)
	if count < least || count > most {
		return 0, "", false
	}
	number, ok = ascii.Number(s[:count], lastYear)
	return number, behind, ok
}
