package heads

import (
	"bytes"
	"strings"

	"footman/api"
	"footman/ascii"
)

// reader reads heads that differ in their first lines alone.
type reader struct {
	first func(m *api.Message, line string) bool
}

func (r reader) read(b []byte) (api.Message, int, api.Errno) {
	head, err := ahead(b)
	if err != api.OK {
		return api.Message{}, 0, err
	}
	m, ok := r.message(head)
	if !ok {
		return api.Message{}, 0, api.ErrHead
	}
	if len(m.Fields) > api.MaxFields {
		return api.Message{}, 0, api.ErrLimit
	}
	return m, len(head), api.OK
}

// ahead: the head that stands ahead in some bytes.
func ahead(b []byte) (string, api.Errno) {
	room := b[:min(len(b), api.MaxHead)]
	if end := bytes.Index(room, []byte(headEnd)); end >= 0 {
		return string(room[:end+len(headEnd)]), api.OK
	}
	if len(room) == api.MaxHead {
		return "", api.ErrLimit
	}
	return "", api.ErrShort
}

// message takes any number of fields: that a line is none is told ahead of there being too many.
func (r reader) message(head string) (api.Message, bool) {
	var m api.Message
	read := r.first
	for line := range lines(head) {
		if !read(&m, line) {
			return api.Message{}, false
		}
		read = field
	}
	return m, true
}

// response reads a response's first line.
func response(m *api.Message, line string) bool {
	version, rest, _ := strings.Cut(line, between)
	digits, reason, _ := strings.Cut(rest, between)
	if version != newVersion && version != oldVersion || len(digits) != statusDigits || !every(reason, isText) {
		return false
	}
	// Digits that are none make 0, which is no status either.
	m.Status, _ = ascii.Number(digits, lastStatus)
	return m.Status >= firstStatus
}

// request reads a request's first line.
func request(m *api.Message, line string) bool {
	method, rest, _ := strings.Cut(line, between)
	target, version, _ := strings.Cut(rest, between)
	m.Method, m.Target = method, target
	return ascii.Token(method) && isTarget(target) && version == newVersion
}

func field(m *api.Message, line string) bool {
	name, value, ok := strings.Cut(line, nameEnd)
	f := api.Field{Name: name, Value: ascii.Trim(value)}
	m.Fields = append(m.Fields, f)
	return ok && isField(f)
}
