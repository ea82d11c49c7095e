package bodies

import (
	"bytes"
	"strconv"
	"strings"

	"footman/api"
	"footman/ascii"
)

const (
	hexDigits  = "0123456789abcdefABCDEF"
	mostDigits = 16
	sizeBits   = 64

	blanks      = " \t"
	remarkBegin = ";"
	nameEnd     = ":"

	tabulator  = '\t'
	firstSign  = ' '
	deleteByte = 127
)

// reader reads a body by its chunks, as far as its bytes are there.
type reader struct {
	rest []byte
	body []byte
	left int // bytes of a chunk
	done bool
	err  api.Errno
}

// state reads one thing and answers the state that reads the one behind it, or none, if nothing more is to be read.
type state func() state

func (r *reader) fail(err api.Errno) state {
	r.err = err
	return nil
}

func (r *reader) size() state {
	line, ok := r.line()
	if !ok {
		return nil
	}
	size, ok := sizeOf(line)
	if !ok {
		return r.fail(api.ErrBody)
	}
	// All chunks ahead are whole, so the body is as long as their sizes together.
	if size > uint64(api.MaxBody-len(r.body)) {
		return r.fail(api.ErrLimit)
	}
	r.left = int(size)
	if r.left == 0 {
		return r.fields
	}
	return r.chunk
}

func (r *reader) chunk() state {
	here := r.rest[:min(len(r.rest), r.left)]
	r.body = append(r.body, here...)
	r.rest = r.rest[len(here):]
	if len(here) < r.left {
		return nil
	}
	return r.chunkEnd
}

// chunkEnd refuses a wrong byte behind a chunk even where the one behind that has not come.
func (r *reader) chunkEnd() state {
	here := r.rest[:min(len(r.rest), len(lineEnd))]
	if !strings.HasPrefix(lineEnd, string(here)) {
		return r.fail(api.ErrBody)
	}
	if len(here) < len(lineEnd) {
		return nil
	}
	r.rest = r.rest[len(here):]
	return r.size
}

// fields passes over the lines behind the last chunk.
func (r *reader) fields() state {
again:
	line, ok := r.line()
	if !ok {
		return nil
	}
	if line == "" {
		r.done = true
		return nil
	}
	if !isField(line) {
		return r.fail(api.ErrBody)
	}
	goto again
}

// line cuts the next one off, if its end is there.
func (r *reader) line() (string, bool) {
	const most = api.MaxHead + len(lineEnd)
	room := r.rest[:min(len(r.rest), most)]
	line, _, ok := bytes.Cut(room, []byte(lineEnd))
	if !ok {
		if len(room) == most {
			r.err = api.ErrLimit
		}
		return "", false
	}
	r.rest = r.rest[len(line)+len(lineEnd):]
	return string(line), true
}

// sizeOf: what a line of a size tells.
func sizeOf(line string) (uint64, bool) {
	rest := strings.TrimLeft(line, hexDigits)
	told := line[:len(line)-len(rest)]
	rest = strings.TrimLeft(rest, blanks)
	if len(told) > mostDigits || rest != "" && !strings.HasPrefix(rest, remarkBegin) || !isText(rest) {
		return 0, false
	}
	// No digits at all are refused here.
	size, err := strconv.ParseUint(told, hexBase, sizeBits)
	return size, err == nil
}

func isField(line string) bool {
	name, value, ok := strings.Cut(line, nameEnd)
	return ok && ascii.Token(name) && isText(value)
}

// isText: is there no control byte?
func isText(s string) bool {
	for i := range len(s) {
		if c := s[i]; c < firstSign && c != tabulator || c == deleteByte {
			return false
		}
	}
	return true
}
