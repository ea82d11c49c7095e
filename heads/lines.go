package heads

import (
	"iter"
	"strings"

	"footman/api"
	"footman/ascii"
)

const (
	lineEnd = "\r\n"
	headEnd = lineEnd + lineEnd
	nameEnd = ":"
	between = " "

	newVersion = "HTTP/1.1"
	oldVersion = "HTTP/1.0"

	statusDigits = 3
	firstStatus  = 100
	lastStatus   = 999

	tabulator  = '\t'
	blankByte  = ' '
	deleteByte = 127
)

// written: the lines of a request's head, the last one of which is empty.
func written(m api.Message) iter.Seq[string] {
	return func(yield func(string) bool) {
		if !yield(m.Method + between + m.Target + between + newVersion) {
			return
		}
		for _, f := range m.Fields {
			if !yield(f.Name + nameEnd + between + f.Value) {
				return
			}
		}
		yield("")
	}
}

// lines: those of a head, without the last one, which is empty.
func lines(head string) iter.Seq[string] {
	return func(yield func(string) bool) {
		rest := strings.TrimSuffix(head, lineEnd)
		for rest != "" {
			line, behind, _ := strings.Cut(rest, lineEnd)
			if !yield(line) {
				return
			}
			rest = behind
		}
	}
}

func mayBePut(m api.Message) bool {
	if !ascii.Token(m.Method) || !isTarget(m.Target) {
		return false
	}
	for _, f := range m.Fields {
		if !isField(f) {
			return false
		}
	}
	return true
}

func isField(f api.Field) bool {
	return ascii.Token(f.Name) && every(f.Value, isText) && ascii.Trim(f.Value) == f.Value
}

func isTarget(s string) bool { return s != "" && every(s, isSign) }

// isText: is a byte no control byte?
func isText(c byte) bool { return c == tabulator || c >= blankByte && c != deleteByte }

// isSign: may a byte stand in a target?
func isSign(c byte) bool { return blankByte < c && c < deleteByte }

func every(s string, holds func(byte) bool) bool {
	for i := range len(s) {
		if !holds(s[i]) {
			return false
		}
	}
	return true
}
