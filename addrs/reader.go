package addrs

import (
	"strings"

	"footman/api"
	"footman/ascii"
)

// reader cuts a text's rest from its beginning on. What reads by it may leave the rest cut where it answers false.
type reader struct{ rest string }

// read answers the numbers that it has cut; false: they are not there.
type read func() ([]int, bool)

// readerOf reads small letters alone: great ones tell no other number.
func readerOf(s string) *reader { return &reader{ascii.Lower(s)} }

// cut: does the rest begin with that?
func (r *reader) cut(text string) bool {
	rest, ok := strings.CutPrefix(r.rest, text)
	r.rest = rest
	return ok
}

// digits: the number that the digits ahead tell, and how many they are. All are cut, even where the number is too great, as a byte behind them may make them none.
func (r *reader) digits(base int) (number, count int) {
	for count < len(r.rest) {
		digit := strings.IndexByte(digitSigns[:base], r.rest[count])
		if digit < 0 {
			break
		}
		number = min(number*base+digit, tooGreat)
		count++
	}
	r.rest = r.rest[count:]
	return number, count
}

// part: one nought alone is read as in octal, too: the number is the same.
func (r *reader) part() ([]int, bool) {
	base := 8
	if r.cut("0x") {
		base = 16
	} else if !r.cut("0") {
		return r.decimal()
	}
	number, _ := r.digits(base)
	return []int{number}, true
}

func (r *reader) decimal() ([]int, bool) {
	number, count := r.digits(10)
	return []int{number}, count > 0
}

func (r *reader) piece() ([]int, bool) {
	number, count := r.digits(16)
	return []int{number}, 1 <= count && count <= pieceDigits
}

// small: a number of one byte, without a nought ahead.
func (r *reader) small() ([]int, bool) {
	nought := strings.HasPrefix(r.rest, "0")
	number, count := r.digits(10)
	if nought && count > 1 || number > mostByte {
		return nil, false
	}
	return []int{number}, count > 0
}

// four: the last two pieces, told by four bytes.
func (r *reader) four() ([]int, bool) {
	b := r.row(r.small, point, fourParts)
	if len(b) != fourParts || r.rest != "" {
		return nil, false
	}
	return []int{b[0]<<byteBits | b[1], b[2]<<byteBits | b[3]}, true
}

// six answers the zero address, which is none of sixteen bytes, where there is none.
func (r *reader) six() api.Addr {
	pieces := r.either(r.four, r.piece)
	ahead := r.row(pieces, colon, sixPieces)
	if len(ahead) == sixPieces {
		return sixOf(ahead, nil)
	}
	if !r.cut(shortened) {
		return api.Addr{}
	}
	behind := r.row(pieces, colon, sixPieces-1-len(ahead))
	return sixOf(ahead, behind)
}

// row reads as long as there is more, and room for it; what stands between is left, if nothing is read behind it.
func (r *reader) row(next read, between string, most int) []int {
	var out []int
	for {
		before := r.rest
		if len(out) > 0 && !r.cut(between) {
			return out
		}
		numbers, ok := next()
		if !ok || len(out)+len(numbers) > most {
			r.rest = before
			return out
		}
		out = append(out, numbers...)
	}
}

// either reads by the first that can, each from the same rest.
func (r *reader) either(ways ...read) read {
	return func() ([]int, bool) {
		before := r.rest
		for _, way := range ways {
			if numbers, ok := way(); ok {
				return numbers, true
			}
			r.rest = before
		}
		return nil, false
	}
}

// whole reads no less than all.
func (r *reader) whole(way read) read {
	return func() ([]int, bool) {
		numbers, ok := way()
		return numbers, ok && r.rest == ""
	}
}
