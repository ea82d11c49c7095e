package bodies

import (
	"slices"
	"strings"

	"footman/api"
	"footman/ascii"
)

const (
	headMethod = "HEAD"

	codesName   = "Transfer-Encoding"
	lengthName  = "Content-Length"
	chunkedCode = "chunked"
	comma       = ','

	firstOnTheWay = 100
	lastOnTheWay  = 199
	noContent     = 204
	notModified   = 304

	nought = "0"
	digits = "0123456789"
)

// mayHave: may a response of a status have a body?
func mayHave(status int) bool {
	onTheWay := firstOnTheWay <= status && status <= lastOnTheWay
	return !onTheWay && status != noContent && status != notModified
}

func ofCodes(values []string) (Kind, int, api.Errno) {
	if len(values) != 1 || !ascii.Same(values[0], chunkedCode) {
		return None, 0, api.ErrBody
	}
	return Chunks, 0, api.OK
}

func ofLengths(values []string) (Kind, int, api.Errno) {
	told, ok := length(values)
	if !ok {
		return None, 0, api.ErrBody
	}
	// The nought ahead makes digits of a length of 0. What has too many digits for Number is above the limit, too.
	n, ok := ascii.Number(nought+told, api.MaxBody)
	if !ok {
		return None, 0, api.ErrLimit
	}
	return Length, n, api.OK
}

// length: what all values tell, as digits without noughts ahead, since there may be more of them than an int holds.
func length(values []string) (string, bool) {
	var lengths []string
	for _, value := range values {
		for _, part := range ascii.Split(value, comma) {
			if part == "" || strings.Trim(part, digits) != "" {
				return "", false
			}
			lengths = append(lengths, strings.TrimLeft(part, nought))
		}
	}
	lengths = slices.Compact(lengths)
	return lengths[0], len(lengths) == 1
}
