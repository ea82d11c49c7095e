package heads_test

import (
	"bytes"
	"math/rand"
	"regexp"
	"slices"
	"strconv"
	"strings"
	"testing"

	"footman/api"
	"footman/ascii"
	"footman/heads"
)

const (
	tokenSigns = "ABCDEFGHIJKLMNOPQRSTUVWXYZabcdefghijklmnopqrstuvwxyz0123456789!#$%&'*+-.^_`|~"

	responseBegin = "HTTP/1.1 200 OK\r\n"
	requestBegin  = "GET / HTTP/1.1\r\n"
	end           = "\r\n"
)

// fields of names and values, by turns.
func fields(texts ...string) []api.Field {
	var l []api.Field
	for i := 0; i < len(texts); i += 2 {
		l = append(l, api.Field{Name: texts[i], Value: texts[i+1]})
	}
	return l
}

// asks is a request of GET for /.
func asks(texts ...string) api.Message {
	return api.Message{Method: "GET", Target: "/", Fields: fields(texts...)}
}

func same(a, b api.Message) bool {
	return a.Method == b.Method && a.Target == b.Target && a.Status == b.Status &&
		slices.Equal(a.Fields, b.Fields) && bytes.Equal(a.Body, b.Body)
}

// shown: a message as text, not too long a one.
func shown(m api.Message) string {
	text := m.Method + " " + m.Target + " " + strconv.Itoa(m.Status)
	for _, f := range m.Fields {
		text += " " + strconv.Quote(f.Name) + ": " + strconv.Quote(f.Value)
	}
	text += " " + string(m.Body)
	return text[:min(len(text), 300)]
}

func wantPut(t *testing.T, m api.Message, want string) {
	t.Helper()
	if got, err := heads.Put(m); string(got) != want || err != api.OK {
		t.Errorf("Put(%q): %.300q, %d, not %.300q, 0", shown(m), got, err, want)
	}
}

func wantNoPut(t *testing.T, m api.Message, want api.Errno) {
	t.Helper()
	if got, err := heads.Put(m); len(got) != 0 || err != want {
		t.Errorf("Put(%q): %.300q, %d, not nothing, %d", shown(m), got, err, want)
	}
}

// call is Get or Request.
type call struct {
	name string
	read func([]byte) (api.Message, int, api.Errno)
	// begin is a first line that may be, and told what it tells.
	begin string
	told  api.Message
}

func get() call {
	return call{"Get", heads.Get, responseBegin, api.Message{Status: 200}}
}

func request() call {
	return call{"Request", heads.Request, requestBegin, api.Message{Method: "GET", Target: "/"}}
}

func (c call) want(t *testing.T, text string, want api.Message, length int) {
	t.Helper()
	if got, n, err := c.read([]byte(text)); !same(got, want) || n != length || err != api.OK {
		t.Errorf("%s(%.300q): %q, %d, %d, not %q, %d, 0", c.name, text, shown(got), n, err, shown(want), length)
	}
}

func (c call) wantNone(t *testing.T, text string, want api.Errno) {
	t.Helper()
	if got, n, err := c.read([]byte(text)); !same(got, api.Message{}) || n != 0 || err != want {
		t.Errorf("%s(%.300q): %q, %d, %d, not nothing, %d", c.name, text, shown(got), n, err, want)
	}
}

// wantFields: of a head whose first line may be, behind which some lines with their ends stand.
func (c call) wantFields(t *testing.T, text string, texts ...string) {
	t.Helper()
	want := c.told
	want.Fields = fields(texts...)
	head := c.begin + text + end
	c.want(t, head, want, len(head))
}

func (c call) wantNoFields(t *testing.T, text string) {
	t.Helper()
	c.wantNone(t, c.begin+text+end, api.ErrHead)
}

// wantFirst: of a response's first line.
func wantFirst(t *testing.T, line string, status int) {
	t.Helper()
	head := line + end + end
	get().want(t, head, api.Message{Status: status}, len(head))
	head = line + end + "A: b" + end + end
	get().want(t, head, api.Message{Status: status, Fields: fields("A", "b")}, len(head))
}

// wantNoFirst: of a line that is the first one of neither a response nor a request, for the call of that.
func (c call) wantNoFirst(t *testing.T, line string) {
	t.Helper()
	c.wantNone(t, line+end+end, api.ErrHead)
	c.wantNone(t, line+end+"A: b"+end+end, api.ErrHead)
}

func wantFind(t *testing.T, l []api.Field, name string, want ...string) {
	t.Helper()
	if got := heads.Find(l, name); !slices.Equal(got, want) {
		t.Errorf("Find(%.300q, %q): %.300q, not %.300q", l, name, got, want)
	}
}

func oneByte(c byte) string { return string([]byte{c}) }

// control: may a byte stand in no value?
func control(c byte) bool { return c < 32 && c != 9 || c == 127 }

// oracle reads by the chapter's words, by patterns of whole lines.
type oracle struct{ response, request, field *regexp.Regexp }

func newOracle() oracle {
	const text = `[^\x00-\x08\x0a-\x1f\x7f]*`
	const token = "[-A-Za-z0-9!#$%&'*+.^_`|~]+"
	return oracle{
		response: regexp.MustCompile(`^HTTP/1\.[01] ([1-9][0-9][0-9])( ` + text + `)?$`),
		request:  regexp.MustCompile(`^(` + token + `) ([!-~]+) HTTP/1\.1$`),
		field:    regexp.MustCompile(`^(` + token + `):(` + text + `)$`),
	}
}

func (o oracle) read(text string, response bool) (api.Message, int, api.Errno) {
	length := strings.Index(text, end+end) + 4
	if length < 4 || length > api.MaxHead {
		if len(text) >= api.MaxHead {
			return api.Message{}, 0, api.ErrLimit
		}
		return api.Message{}, 0, api.ErrShort
	}
	lines := strings.Split(text[:length-4], end)
	var m api.Message
	if response {
		found := o.response.FindStringSubmatch(lines[0])
		if found == nil {
			return api.Message{}, 0, api.ErrHead
		}
		m.Status, _ = strconv.Atoi(found[1])
	} else {
		found := o.request.FindStringSubmatch(lines[0])
		if found == nil {
			return api.Message{}, 0, api.ErrHead
		}
		m.Method, m.Target = found[1], found[2]
	}
	for _, line := range lines[1:] {
		found := o.field.FindStringSubmatch(line)
		if found == nil {
			return api.Message{}, 0, api.ErrHead
		}
		m.Fields = append(m.Fields, api.Field{Name: found[1], Value: strings.Trim(found[2], " \t")})
	}
	if len(m.Fields) > api.MaxFields {
		return api.Message{}, 0, api.ErrLimit
	}
	return m, length, api.OK
}

// wantByWords: as the oracle has it. It tells the message and the error.
func (c call) wantByWords(t *testing.T, o oracle, text string) (api.Message, api.Errno) {
	t.Helper()
	want, length, err := o.read(text, c.name == "Get")
	if got, n, gotErr := c.read([]byte(text)); !same(got, want) || n != length || gotErr != err {
		t.Fatalf("%s(%.300q): %q, %d, %d, not %q, %d, %d", c.name, text, shown(got), n, gotErr, shown(want), length, err)
	}
	return want, err
}

// P12.1
func TestPutExamples(t *testing.T) {
	wantPut(t, api.Message{Method: "GET", Target: "/a?b", Fields: fields("Host", "h")}, "GET /a?b HTTP/1.1\r\nHost: h\r\n\r\n")
	wantNoPut(t, api.Message{Method: "G T"}, api.ErrArg)
	wantNoPut(t, api.Message{Method: "G T", Target: "/"}, api.ErrArg)
	wantNoPut(t, api.Message{Method: "GET"}, api.ErrArg)
	wantNoPut(t, asks("A", "b "), api.ErrArg)
}

// P12.2
func TestGetExamples(t *testing.T) {
	get().want(t, "HTTP/1.1 200 OK\r\nA: b\r\na:\r\n\r\nx", api.Message{Status: 200, Fields: fields("A", "b", "a", "")}, 29)
	get().want(t, "HTTP/1.0 404\r\n\r\n", api.Message{Status: 404}, 16)
	get().wantNone(t, "HTTP/1.1 200\r\n", api.ErrShort)
	get().wantNone(t, "", api.ErrShort)
	get().wantNone(t, "HTTP/2 200\r\n\r\n", api.ErrHead)
	get().wantNone(t, "HTTP/1.1 200\r\nA : b\r\n\r\n", api.ErrHead)
	get().wantNone(t, "HTTP/1.1 200\r\n a: b\r\n\r\n", api.ErrHead)
	get().wantNone(t, "HTTP/1.1 099\r\n\r\n", api.ErrHead)
}

// P12.4
func TestFindExamples(t *testing.T) {
	wantFind(t, fields("A", "1", "b", "2", "a", "3"), "A", "1", "3")
	wantFind(t, nil, "A")
}

// P12.1
func TestPut(t *testing.T) {
	wantPut(t, asks(), "GET / HTTP/1.1\r\n\r\n")
	wantPut(t, api.Message{Method: "GET", Target: "/", Fields: []api.Field{}}, "GET / HTTP/1.1\r\n\r\n")
	wantPut(t, api.Message{Method: "get", Target: "*"}, "get * HTTP/1.1\r\n\r\n")
	wantPut(t, api.Message{Method: tokenSigns, Target: "x:y"}, tokenSigns+" x:y HTTP/1.1\r\n\r\n")
	wantPut(t, asks("a", ""), "GET / HTTP/1.1\r\na: \r\n\r\n")
	wantPut(t, asks("b", "2", "A", "1", "b", "2", "B", "3"), "GET / HTTP/1.1\r\nb: 2\r\nA: 1\r\nb: 2\r\nB: 3\r\n\r\n")
	wantPut(t, asks("A", "b \t c", "d", ":,;\"é\xff"), "GET / HTTP/1.1\r\nA: b \t c\r\nd: :,;\"é\xff\r\n\r\n")
}

// P12.1: Status and Body are not asked for.
func TestPutOfStatusAndBody(t *testing.T) {
	m := asks("A", "b")
	for _, status := range []int{-1, 1, 200, 1 << 40} {
		m.Status, m.Body = status, []byte("x\r\n\r\n")
		wantPut(t, m, "GET / HTTP/1.1\r\nA: b\r\n\r\n")
	}
}

// P12.1: each byte of a method.
func TestPutMethods(t *testing.T) {
	wantNoPut(t, api.Message{Target: "/"}, api.ErrArg)
	for i := range 256 {
		c := oneByte(byte(i))
		for _, method := range []string{c, "G" + c, c + "G", "G" + c + "T"} {
			m := api.Message{Method: method, Target: "/"}
			if strings.Contains(tokenSigns, c) {
				wantPut(t, m, method+" / HTTP/1.1\r\n\r\n")
			} else {
				wantNoPut(t, m, api.ErrArg)
			}
		}
	}
}

// P12.1: each byte of a target.
func TestPutTargets(t *testing.T) {
	wantNoPut(t, api.Message{Method: "GET"}, api.ErrArg)
	for i := range 256 {
		c := oneByte(byte(i))
		for _, target := range []string{c, "/" + c, c + "/", "/" + c + "a"} {
			m := api.Message{Method: "GET", Target: target}
			if 33 <= i && i <= 126 {
				wantPut(t, m, "GET "+target+" HTTP/1.1\r\n\r\n")
			} else {
				wantNoPut(t, m, api.ErrArg)
			}
		}
	}
}

// P12.1: each byte of a field's name and value, in the first field and behind others.
func TestPutFields(t *testing.T) {
	wantNoPut(t, asks("", "b"), api.ErrArg)
	wantNoPut(t, asks("", ""), api.ErrArg)
	wantNoPut(t, asks("A", "b", "", "c"), api.ErrArg)
	for i := range 256 {
		c := oneByte(byte(i))
		for _, name := range []string{c, "A" + c, c + "A", "A" + c + "B"} {
			if strings.Contains(tokenSigns, c) {
				wantPut(t, asks("x", "y", name, "b"), "GET / HTTP/1.1\r\nx: y\r\n"+name+": b\r\n\r\n")
			} else {
				wantNoPut(t, asks(name, "b"), api.ErrArg)
				wantNoPut(t, asks("x", "y", name, "b"), api.ErrArg)
				wantNoPut(t, asks(name, "b", "x", "y"), api.ErrArg)
			}
		}
		blank := i == 9 || i == 32
		for _, value := range []string{c, "b" + c, c + "b", "b" + c + "d"} {
			if !control(byte(i)) && (!blank || len(value) == 3) {
				wantPut(t, asks("x", "y", "A", value), "GET / HTTP/1.1\r\nx: y\r\nA: "+value+"\r\n\r\n")
			} else {
				wantNoPut(t, asks("A", value), api.ErrArg)
				wantNoPut(t, asks("x", "y", "A", value), api.ErrArg)
				wantNoPut(t, asks("A", value, "x", "y"), api.ErrArg)
			}
		}
	}
	// No line may be smuggled in, nor a head's end.
	wantNoPut(t, asks("A", "b\r\nc: d"), api.ErrArg)
	wantNoPut(t, asks("A", "b\r\n\r\n"), api.ErrArg)
	wantNoPut(t, asks("A: b\r\nc", "d"), api.ErrArg)
	wantNoPut(t, api.Message{Method: "GET", Target: "/ HTTP/1.1\r\nA: b\r\n"}, api.ErrArg)
	// What other layers take for blanks is none.
	wantPut(t, asks("A", "\u00a0b\u2003"), "GET / HTTP/1.1\r\nA: \u00a0b\u2003\r\n\r\n")
	// Letters above the first 128 make no token, even if they are small or great ones of a letter.
	for _, s := range []string{"\u212a", "\u017f", "\u0130", "é"} {
		wantNoPut(t, asks(s, "b"), api.ErrArg)
		wantNoPut(t, api.Message{Method: s, Target: "/"}, api.ErrArg)
	}
}

// P12.1
func TestPutMaxFields(t *testing.T) {
	l := slices.Repeat(fields("a", "b"), api.MaxFields)
	m := api.Message{Method: "GET", Target: "/", Fields: l}
	wantPut(t, m, "GET / HTTP/1.1\r\n"+strings.Repeat("a: b\r\n", api.MaxFields)+"\r\n")
	m.Fields = append(l, api.Field{Name: "a"})
	wantNoPut(t, m, api.ErrLimit)
	m.Fields = slices.Repeat(fields("a", ""), 50000)
	wantNoPut(t, m, api.ErrLimit)
}

// P12.1: bytes are counted, wherever they stand.
func TestPutMaxHead(t *testing.T) {
	for _, m := range []func(string) api.Message{
		func(s string) api.Message { return api.Message{Method: s, Target: "/", Fields: fields("A", "b")} },
		func(s string) api.Message { return api.Message{Method: "M", Target: s, Fields: fields("A", "b")} },
		func(s string) api.Message { return api.Message{Method: "M", Target: s} },
		func(s string) api.Message { return asks(s, "b", "c", "d") },
		func(s string) api.Message { return asks("A", s, "c", "d") },
		func(s string) api.Message { return asks("c", "d", "A", s) },
		func(s string) api.Message { return asks("c", "d", s, "") },
	} {
		little, _ := heads.Put(m("x"))
		most := strings.Repeat("x", api.MaxHead-len(little)+1)
		head, err := heads.Put(m(most))
		if len(head) != api.MaxHead || err != api.OK {
			t.Errorf("Put of most: %d bytes, %d", len(head), err)
		}
		request().want(t, string(head), m(most), api.MaxHead)
		for _, more := range []int{1, 2, 3, 4, 100000} {
			wantNoPut(t, m(most+strings.Repeat("x", more)), api.ErrLimit)
		}
	}
	few := "é" + strings.Repeat("x", api.MaxHead-22-2)
	head, err := heads.Put(api.Message{Method: "MM", Target: "/", Fields: fields("A", few)})
	if len(head) != api.MaxHead || err != api.OK {
		t.Errorf("Put of bytes above 127: %d bytes, %d", len(head), err)
	}
	wantNoPut(t, api.Message{Method: "MM", Target: "/", Fields: fields("A", "é"+few)}, api.ErrLimit)
}

// P12.1: of several errors ErrArg is named first. (R2)
func TestPutErrorsInOrder(t *testing.T) {
	long := strings.Repeat("x", api.MaxHead)
	many := slices.Repeat(fields("a", "b"), api.MaxFields)
	for _, m := range []api.Message{
		{Method: "G T", Target: "/" + long},
		{Method: "G T", Target: "/", Fields: slices.Concat(many, many)},
		{Method: "GET", Fields: slices.Concat(many, many)},
		{Method: "GET", Target: long + " "},
		{Method: long + " ", Target: "/"},
		{Method: long},
		asks("A", long+" "),
		asks("A", long, "b c", "d"),
		asks("A", long, "b", "\x00"),
		{Method: "GET", Target: "/", Fields: slices.Concat(many, fields("a", "b "))},
		{Method: "GET", Target: "/", Fields: slices.Concat(many, many, fields("", "b"))},
		{Method: "GET", Target: "/", Fields: slices.Concat(fields("A", "\n"), many)},
	} {
		wantNoPut(t, m, api.ErrArg)
	}
}

// P12.2, P12.3: a head's end.
func TestEnd(t *testing.T) {
	for _, c := range []call{get(), request()} {
		for _, text := range []string{
			"\r\n", "\r", "\n", "\n\n", "\r\r", "\n\n\n", "\r\n\r", "\r\n\n", "\r\r\n", "x", "\x00", "A: b\r\n",
			c.begin, c.begin + "\n", c.begin + "\r", c.begin + "A: b", c.begin + "A: b\r\n", c.begin + "A: b\r\n\n",
			c.begin + "A: b\n\n", c.begin + "A: b\r\r", c.begin + "A: b\n\r\n\r", c.begin + "A: b\r\n\r\r\n",
		} {
			c.wantNone(t, text, api.ErrShort)
		}
		for _, text := range []string{
			"\r\n\r\n", "\r\n\r\n\r\n", "\r\n\r\n" + c.begin + end, "\r\n" + c.begin + end, "\n" + c.begin + end, "\n\r\n\r\n",
			"\r\r\n\r\n", " \r\n\r\n", "x\r\n\r\n", "\x00\r\n\r\n", "A: b\r\n\r\n", "A: b\r\n" + c.begin + end, c.begin + c.begin + end,
		} {
			c.wantNone(t, text, api.ErrHead)
		}
		// What stands behind the first end is not a head's.
		want := c.told
		want.Fields = fields("A", "b")
		head := c.begin + "A: b\r\n\r\n"
		for _, behind := range []string{"\r\n", "\r\n\r\n", "c: d\r\n\r\n", "x", "\x00", head, strings.Repeat("x", 2*api.MaxHead)} {
			c.want(t, c.begin+end+behind, c.told, len(c.begin)+2)
			c.want(t, head+behind, want, len(head))
		}
	}
}

// P12.2, P12.3: a head of MaxHead bytes and of one more, and bytes without an end.
func TestMaxHead(t *testing.T) {
	o := newOracle()
	for _, c := range []call{get(), request()} {
		for _, begin := range []string{c.begin + "A: ", c.begin + "x: y\r\nA: ", "\x00", ":", c.begin + " "} {
			for _, fill := range []string{"b", "\n", "\r"} {
				for _, more := range []int{-1, 0, 1, 2, 3, 4, 5, 100000} {
					_, err := c.wantByWords(t, o, begin+strings.Repeat(fill, api.MaxHead-len(begin)-len(end+end)+more)+end+end)
					if (err == api.ErrLimit) != (more > 0) {
						t.Errorf("%s of %d bytes more than MaxHead: %d", c.name, more, err)
					}
				}
			}
		}
		for _, fill := range []string{"a", "\x00", "\r", "\n", "\n\n\r", "é", c.begin} {
			text := strings.Repeat(fill, 2*api.MaxHead)
			for _, length := range []int{0, 1, 2, 3, 4, 5, 1000, api.MaxHead - 2, api.MaxHead - 1} {
				c.wantNone(t, text[:length], api.ErrShort)
			}
			for _, length := range []int{api.MaxHead, api.MaxHead + 1, api.MaxHead + 2, 2 * api.MaxHead} {
				c.wantNone(t, text[:length], api.ErrLimit)
			}
			// An end behind that comes too late.
			c.wantNone(t, text[:api.MaxHead-4]+"x"+end+end, api.ErrLimit)
			c.wantNone(t, text[:api.MaxHead-1]+"x"+end+end, api.ErrLimit)
		}
	}
}

// P12.2
func TestFirstOfResponse(t *testing.T) {
	for status := 100; status <= 999; status++ {
		line := " " + strconv.Itoa(status)
		wantFirst(t, "HTTP/1.1"+line, status)
		wantFirst(t, "HTTP/1.0"+line+" Any", status)
	}
	for _, line := range []string{
		"HTTP/1.1 200", "HTTP/1.1 200 ", "HTTP/1.1 200  ", "HTTP/1.1 200   OK  ", "HTTP/1.1 200 OK fine", "HTTP/1.1 200 \t",
		"HTTP/1.1 200 \tOK\t", "HTTP/1.1 200 é\xff\x80", "HTTP/1.1 200 404", "HTTP/1.1 200 :", "HTTP/1.1 200 A: b",
	} {
		wantFirst(t, line, 200)
		wantFirst(t, strings.Replace(line, "1.1", "1.0", 1), 200)
	}
	for _, line := range []string{
		"", " ", "HTTP/1.1", "HTTP/1.1 ", "HTTP/1.1  ", "HTTP/1.1  200", "HTTP/1.1   ", " HTTP/1.1 200", "HTTP/1.1\t200", "HTTP/1.1200",
		"HTTP/1.1 200\t", "HTTP/1.1 200\tOK", "HTTP/1.1 200OK", "HTTP/1.1 200.", "HTTP/1.1 200:", "HTTP/1.1 200-", "HTTP/1.1 \t200",
		"HTTP/1.1 2", "HTTP/1.1 20", "HTTP/1.1 20 ", "HTTP/1.1 20 0", "HTTP/1.1 2000", "HTTP/1.1 0200", "HTTP/1.1 000", "HTTP/1.1 001",
		"HTTP/1.1 020", "HTTP/1.1 099", "HTTP/1.1 20x", "HTTP/1.1 x00", "HTTP/1.1 2x0", "HTTP/1.1 +20", "HTTP/1.1 -20", "HTTP/1.1 2.0",
		"HTTP/1.1 2_0", "HTTP/1.1 0x2", "HTTP/1.1 1e2", "HTTP/1.1 OK", "HTTP/1.1 OK 200", "HTTP/1.1 \u0662\u0660\u0660", "HTTP/1.1 20\u0660",
		"HTTP/1.1 \u0660", "HTTP/1.1 99999999999999999999", "HTTP/1.1 000000000000000000200",
		"HTTP/2 200", "HTTP/2.0 200", "HTTP/1.2 200", "HTTP/1 200", "HTTP/1. 200", "HTTP/0.9 200", "HTTP/3 200", "HTTP/11 200", "HTTP/1.10 200",
		"HTTP/1.11 200", "HTTP/1.01 200", "HTTP/01.1 200", "HTTP/1,1 200", "HTTP/1x1 200", "HTTP1.1 200", "HTTP 200", "HTTP/ 200", "1.1 200",
		"http/1.1 200", "Http/1.1 200", "HTTPS/1.1 200", "ICY 200 OK", "XHTTP/1.1 200", "HTTP/1.1X 200", "FTP", "200", "200 OK",
		"GET / HTTP/1.1", "GET / HTTP/1.1 200", "A: b",
	} {
		get().wantNoFirst(t, line)
	}
	get().wantNone(t, requestBegin+"A: b\r\n\r\n", api.ErrHead)
}

// P12.2: each byte of a response's first line.
func TestFirstOfResponseOfEachByte(t *testing.T) {
	for i := range 256 {
		c := oneByte(byte(i))
		for _, line := range []string{"HTTP/1.1 200 " + c, "HTTP/1.1 200 O" + c, "HTTP/1.1 200 O" + c + "K", "HTTP/1.0 200 " + c + "K"} {
			if control(byte(i)) {
				get().wantNoFirst(t, line)
			} else {
				wantFirst(t, line, 200)
			}
		}
		for _, line := range []string{"HTTP/1.1 200" + c, "HTTP/1.1 200" + c + "K"} {
			if i == ' ' {
				wantFirst(t, line, 200)
			} else {
				get().wantNoFirst(t, line)
			}
		}
		for place := range 3 {
			status := []byte("200")
			status[place] = byte(i)
			line := "HTTP/1.1 " + string(status) + " OK"
			if n, err := strconv.Atoi(string(status)); '0' <= i && i <= '9' && err == nil && n >= 100 {
				wantFirst(t, line, n)
			} else {
				get().wantNoFirst(t, line)
			}
		}
		for place := range "HTTP/1.1 " {
			line := []byte("HTTP/1.1 200")
			line[place] = byte(i)
			if s := string(line); s == "HTTP/1.1 200" || s == "HTTP/1.0 200" {
				wantFirst(t, s, 200)
			} else {
				get().wantNoFirst(t, s)
			}
		}
	}
}

// P12.3
func TestFirstOfRequest(t *testing.T) {
	for _, c := range []struct{ method, target string }{
		{"GET", "/"}, {"POST", "/a?b=c&d#e"}, {"get", "*"}, {"!", "!"}, {"~", "~"}, {"OPTIONS", "http://h:8/x"}, {"HTTP-1.1", "200"},
		{tokenSigns, "/%20"}, {"A", "HTTP/1.1"}, {"0", ":"},
	} {
		head := c.method + " " + c.target + " HTTP/1.1\r\n\r\n"
		request().want(t, head, api.Message{Method: c.method, Target: c.target}, len(head))
	}
	for _, line := range []string{
		"", " ", "  ", "GET", "GET ", "GET /", "GET / ", "GET  HTTP/1.1", "GET HTTP/1.1", " / HTTP/1.1", "/ HTTP/1.1", "HTTP/1.1",
		"GET  / HTTP/1.1", "GET /  HTTP/1.1", "GET   HTTP/1.1", " GET / HTTP/1.1", "GET / HTTP/1.1 ", "GET / HTTP/1.1  ", "GET\t/ HTTP/1.1",
		"GET /\tHTTP/1.1", "GET / HTTP/1.1\t", "GET / x HTTP/1.1", "GET / HTTP/1.1 x", "GET / HTTP/1.1x", "GET / HTTP/1.1 HTTP/1.1",
		"GET / HTTP/1.0", "GET / HTTP/2", "GET / HTTP/1.2", "GET / HTTP/1.", "GET / HTTP/1", "GET / http/1.1", "GET / Http/1.1", "GET / HTTP/1.11",
		"GET / HTTP/1.1.", "GET / XHTTP/1.1", "GET / HTTP/01.1", "GET / HTTP", "G:T / HTTP/1.1", "G\"T / HTTP/1.1", "G(T / HTTP/1.1", "é / HTTP/1.1",
		"GET /é HTTP/1.1", "GET /\x7f HTTP/1.1", "GET / HTTP/1.1é", "A: b",
		"HTTP/1.1 200", "HTTP/1.1 200 OK", "HTTP/1.0 404 HTTP/1.1", "HTTP/1.1 200 HTTP/1.1",
	} {
		request().wantNoFirst(t, line)
	}
	request().wantNone(t, responseBegin+"A: b\r\n\r\n", api.ErrHead)
}

// P12.3: each byte of a request's first line.
func TestFirstOfRequestOfEachByte(t *testing.T) {
	for i := range 256 {
		c := oneByte(byte(i))
		for _, text := range []string{c, "G" + c, c + "G", "G" + c + "T"} {
			if head := text + " / HTTP/1.1\r\n\r\n"; strings.Contains(tokenSigns, c) {
				request().want(t, head, api.Message{Method: text, Target: "/"}, len(head))
			} else {
				request().wantNone(t, head, api.ErrHead)
			}
			if head := "GET " + text + " HTTP/1.1\r\n\r\n"; 33 <= i && i <= 126 {
				request().want(t, head, api.Message{Method: "GET", Target: text}, len(head))
			} else {
				request().wantNone(t, head, api.ErrHead)
			}
		}
		for place := range " HTTP/1.1" {
			line := []byte("GET / HTTP/1.1")
			line[place+len("GET /")] = byte(i)
			if s := string(line); s == "GET / HTTP/1.1" {
				request().want(t, s+end+end, request().told, len(s)+4)
			} else {
				request().wantNoFirst(t, s)
			}
		}
	}
}

// P12.2, P12.3: which lines are fields.
func TestFields(t *testing.T) {
	for _, c := range []call{get(), request()} {
		c.wantFields(t, "")
		c.wantFields(t, "A: b\r\n", "A", "b")
		c.wantFields(t, "A:b\r\n", "A", "b")
		c.wantFields(t, "A:\r\n", "A", "")
		c.wantFields(t, "A: \r\n", "A", "")
		c.wantFields(t, "A: \t \t\r\n", "A", "")
		c.wantFields(t, "A: \t b \t \r\n", "A", "b")
		c.wantFields(t, "A:b c\td\r\n", "A", "b c\td")
		c.wantFields(t, "A: b: c\r\n", "A", "b: c")
		c.wantFields(t, "A::\r\n", "A", ":")
		c.wantFields(t, "A:::b:\r\n", "A", "::b:")
		c.wantFields(t, "A: :b\r\n", "A", ":b")
		c.wantFields(t, "A: \u00a0b\u2003\r\n", "A", "\u00a0b\u2003")
		c.wantFields(t, "A: é\xff\x80\r\n", "A", "é\xff\x80")
		c.wantFields(t, "A: b\r\nA: b\r\na:c\r\n", "A", "b", "A", "b", "a", "c")
		c.wantFields(t, "b: 2\r\na: 1\r\nB:\r\n", "b", "2", "a", "1", "B", "")
		c.wantFields(t, tokenSigns+": "+tokenSigns+"\r\n", tokenSigns, tokenSigns)
		c.wantFields(t, "HTTP: 1.1 200\r\n", "HTTP", "1.1 200")
		for _, line := range []string{
			"A", " ", "\t", ":", ": b", ":b:c", " : b", "A b", "A b: c", "A : b", "A\t: b", " A: b", "\tA: b", "  A: b", " b", "\tb", "A=b", "A;b",
			"A;: b", "A,B: c", "(A): b", "\"A\": b", "A/B: c", "A@B: c", "A[B]: c", "A{: b", "é: b", "A\xff: b", "\u212a: b", "\u017f: b",
			"A: b\nc: d", "A: b\rc: d", "A: b\n", "A: b\r", "A: \nb", "A: \rb", "A\n: b", "A\r: b", "\nA: b", "\rA: b", "A:\n", "A:\r", "A: b\n c",
			"A: b\x00", "A: \x00b", "A: b\x01c", "A: b\x1fc", "A: b\x7fc", "A: b\vc", "A: b\f", "A\x00: b", "A\x7f: b", "\x00: b",
			"HTTP/1.1 200 OK", "GET / HTTP/1.1",
		} {
			c.wantNoFields(t, line+"\r\n")
			c.wantNoFields(t, "x: y\r\n"+line+"\r\n")
			c.wantNoFields(t, line+"\r\nx: y\r\n")
			c.wantNoFields(t, "x: y\r\n"+line+"\r\nx: y\r\n")
		}
	}
}

// P12.2, P12.3: each byte of a field's line.
func TestFieldsOfEachByte(t *testing.T) {
	for _, c := range []call{get(), request()} {
		for i := range 256 {
			sign := oneByte(byte(i))
			for _, name := range []string{sign, "A" + sign, sign + "A", "A" + sign + "B"} {
				switch {
				case strings.Contains(tokenSigns, sign):
					c.wantFields(t, name+": b\r\n", name, "b")
				case sign == ":" && name[0] == 'A':
					c.wantFields(t, name+": b\r\n", "A", name[2:]+": b")
				default:
					c.wantNoFields(t, name+": b\r\n")
				}
			}
			for _, value := range []string{sign, "b" + sign, sign + "b", "b" + sign + "d", " b" + sign + " "} {
				if control(byte(i)) {
					c.wantNoFields(t, "A: "+value+"\r\n")
				} else {
					c.wantFields(t, "A: "+value+"\r\n", "A", strings.Trim(value, " \t"))
					c.wantFields(t, "A:"+value+"\r\n", "A", strings.Trim(value, " \t"))
				}
			}
		}
	}
}

// P12.2, P12.3: MaxFields fields and one more; that a line is none is told ahead of that. (R2)
func TestMaxFields(t *testing.T) {
	for _, c := range []call{get(), request()} {
		lines := strings.Repeat("a: b\r\n", api.MaxFields)
		c.wantFields(t, lines, slices.Repeat([]string{"a", "b"}, api.MaxFields)...)
		for _, more := range []string{"a: b\r\n", "c:\r\n", lines, strings.Repeat("a:\r\n", 10000)} {
			c.wantNone(t, c.begin+lines+more+end, api.ErrLimit)
			c.wantNoFields(t, lines+more+" a: b\r\n")
			c.wantNoFields(t, "a\r\n"+lines+more)
			c.wantNone(t, "x"+end+lines+more+end, api.ErrHead)
			c.wantNone(t, c.begin+lines+more, api.ErrShort)
		}
		c.wantNone(t, c.begin+strings.Repeat("a:\r\n", api.MaxHead/4)+end, api.ErrLimit)
		// No more than MaxFields, but no head ends where one must.
		c.wantNone(t, c.begin+"a: "+strings.Repeat("b", api.MaxHead)+end+end, api.ErrLimit)
		c.wantNone(t, "x"+strings.Repeat("b", api.MaxHead)+end+end, api.ErrLimit)
	}
}

// P12.4
func TestFind(t *testing.T) {
	l := fields("Set-Cookie", "a", "Host", "h", "set-cookie", "b", "SET-COOKIE", "a", "Set-Cookies", "c", "", "d", "Host ", "e", "", "f")
	for _, name := range []string{"Set-Cookie", "set-cookie", "SET-COOKIE", "sET-cOOKIE"} {
		wantFind(t, l, name, "a", "b", "a")
	}
	wantFind(t, l, "host", "h")
	wantFind(t, l, "HOST ", "e")
	wantFind(t, l, "", "d", "f")
	for _, name := range []string{"Set-Cooki", "Set_Cookie", " Host", "Hos", "Hosts", "a", "\x00", "Set-Coo\u212aie", "ho\u017ft"} {
		wantFind(t, l, name)
	}
	for _, name := range []string{"", "A", "\xff"} {
		wantFind(t, nil, name)
		wantFind(t, []api.Field{}, name)
	}
	// Fields may be any texts.
	wantFind(t, fields("\xff", "1", "É", "\x00", "é", "3", "\xff", "\r\n"), "\xff", "1", "\r\n")
	wantFind(t, fields("\xff", "1", "É", "\x00", "é", "3", "\xff", "\r\n"), "é", "3")
	wantFind(t, fields("K", "1", "\u212a", "2", "k", ""), "k", "1", "")
	wantFind(t, fields("s", "1", "\u017f", "2", "S", "3"), "\u017f", "2")
	many := slices.Repeat(fields("a", "1", "b", "2", "A", "3"), 10000)
	wantFind(t, many, "a", slices.Repeat([]string{"1", "3"}, 10000)...)
}

// P12.4: each two bytes as names.
func TestFindOfEachByte(t *testing.T) {
	for i := range 256 {
		for j := range 256 {
			a, b := oneByte(byte(i)), oneByte(byte(j))
			letters := strings.Contains(tokenSigns[:52], a) && strings.Contains(tokenSigns[:52], b)
			if a == b || letters && strings.EqualFold(a, b) {
				wantFind(t, fields(a, "x"), b, "x")
			} else {
				wantFind(t, fields(a, "x"), b)
			}
		}
	}
}

// messages that may be put, made from a fixed seed.
func messages() []api.Message {
	r := rand.New(rand.NewSource(12))
	text := func(signs string, least, most int) string {
		b := make([]byte, least+r.Intn(most-least+1))
		for i := range b {
			b[i] = signs[r.Intn(len(signs))]
		}
		return string(b)
	}
	var list []api.Message
	for range 3000 {
		m := api.Message{Method: text(tokenSigns, 1, 5), Target: text("/?#&=:%ab!~", 1, 9)}
		for range r.Intn(6) {
			m.Fields = append(m.Fields, api.Field{Name: text(tokenSigns, 1, 4), Value: ascii.Trim(text("ab :,;\t\"=é\xff", 0, 9))})
		}
		list = append(list, m)
	}
	return list
}

// P12.5: Request of Put is what was put, whatever stands behind; fewer bytes are too short.
func TestRequestOfPut(t *testing.T) {
	with := 0
	for _, m := range messages() {
		head, err := heads.Put(m)
		if err != api.OK {
			t.Fatalf("Put(%q): %d", shown(m), err)
		}
		if len(m.Fields) > 0 {
			with++
		}
		for _, behind := range []string{"", "x", "\r\n", "\r\n\r\n", "a: b\r\n\r\n"} {
			request().want(t, string(head)+behind, m, len(head))
		}
		for i := range head {
			request().wantNone(t, string(head[:i]), api.ErrShort)
			get().wantNone(t, string(head[:i]), api.ErrShort)
		}
		get().wantNone(t, string(head), api.ErrHead)
		// The same fields behind a response's first line.
		_, lines, _ := strings.Cut(string(head), end)
		answer := responseBegin + lines
		get().want(t, answer+"x", api.Message{Status: 200, Fields: m.Fields}, len(answer))
		for i := range len(answer) {
			get().wantNone(t, answer[:i], api.ErrShort)
		}
	}
	if with < 2000 {
		t.Errorf("only %d messages with fields", with)
	}
}

// P12.5: Status and Body are not put, so they are not read back.
func TestRequestOfPutWithMore(t *testing.T) {
	m := asks("A", "b")
	m.Status, m.Body = 200, []byte("body")
	head, _ := heads.Put(m)
	request().want(t, string(head), asks("A", "b"), len(head))
}

// P12.2, P12.3: texts of pieces that heads are made of, and of others.
func TestByWords(t *testing.T) {
	pieces := []string{
		"HTTP/1.1 ", "HTTP/1.0 ", "HTTP/1.1", "200", "404", "099", " OK", "GET ", "GET", "/a ", "/", " ", "\t", "A", "b:", "A: b", ": ", ":",
		"\r\n", "\r\n", "\r\n", "\r\n\r\n", "\r", "\n", "\x00", "\x7f", "é", "\xff", "Set-Cookie: x=y; z", "HTTP/2 200",
	}
	begins := []string{"", "HTTP/1.1 200", "HTTP/1.0 404 \t", "GET / HTTP/1.1", "HTTP/1.1 200 OK\r\nA: b\r\n", "GET / HTTP/1.1\r\nA: b\r\n"}
	r := rand.New(rand.NewSource(2))
	o := newOracle()
	counts := map[api.Errno]int{}
	withFields := 0
	for range 200000 {
		var text strings.Builder
		text.WriteString(begins[r.Intn(len(begins))])
		for range r.Intn(9) {
			text.WriteString(pieces[r.Intn(len(pieces))])
		}
		if r.Intn(3) > 0 {
			text.WriteString(end + end)
		}
		for _, c := range []call{get(), request()} {
			m, err := c.wantByWords(t, o, text.String())
			counts[err]++
			if len(m.Fields) > 0 {
				withFields++
			}
		}
	}
	if counts[api.OK] < 10000 || counts[api.ErrHead] < 10000 || counts[api.ErrShort] < 10000 || withFields < 5000 {
		t.Errorf("too few of a kind: %v, %d", counts, withFields)
	}
}

// P12.2, P12.3: heads near the limits.
func TestByWordsNearLimits(t *testing.T) {
	r := rand.New(rand.NewSource(3))
	o := newOracle()
	counts := map[api.Errno]int{}
	for range 600 {
		lines := strings.Repeat("a: b\r\n", api.MaxFields-2+r.Intn(5))
		fill := api.MaxHead - len(lines) - len(responseBegin) - 12 + r.Intn(24)
		if r.Intn(2) == 0 {
			fill = 3
		}
		for _, c := range []call{get(), request()} {
			text := c.begin + lines + []string{"c: ", "c ", ""}[r.Intn(3)] + strings.Repeat("d", fill) + []string{end + end, end, ""}[r.Intn(3)]
			_, err := c.wantByWords(t, o, text)
			counts[err]++
		}
	}
	for _, err := range []api.Errno{api.OK, api.ErrHead, api.ErrShort, api.ErrLimit} {
		if counts[err] < 20 {
			t.Errorf("too few of a kind: %v", counts)
		}
	}
}

// R1: each text of up to three bytes of these, behind each of these beginnings, is read to an end.
func TestAnyBytes(t *testing.T) {
	signs := []string{"", "\r", "\n", "\r\n", ":", " ", "A", "\x00", "\xff", "\r\n\r\n"}
	o := newOracle()
	for _, begin := range []string{"", "HTTP/1.1 200", responseBegin, responseBegin + "A:", requestBegin, requestBegin + "A", "GET / HTTP/1.1"} {
		for i := range len(signs) * len(signs) * len(signs) {
			text := begin + signs[i%10] + signs[i/10%10] + signs[i/100]
			for _, c := range []call{get(), request()} {
				c.wantByWords(t, o, text)
			}
		}
	}
	get().wantNone(t, string(make([]byte, 1000)), api.ErrShort)
	if m, n, err := heads.Get(nil); !same(m, api.Message{}) || n != 0 || err != api.ErrShort {
		t.Errorf("Get(nil): %q, %d, %d", shown(m), n, err)
	}
	if m, n, err := heads.Request(nil); !same(m, api.Message{}) || n != 0 || err != api.ErrShort {
		t.Errorf("Request(nil): %q, %d, %d", shown(m), n, err)
	}
	wantNoPut(t, api.Message{}, api.ErrArg)
	wantNoPut(t, api.Message{Method: "\xff", Target: "\xff", Status: -1, Fields: fields("\xff", "\xff"), Body: []byte{0xff}}, api.ErrArg)
}

// R4: bytes that are handed in are neither changed nor kept, nor is what stands in their spare room read or changed.
func TestReadKeepsNothing(t *testing.T) {
	for _, c := range []call{get(), request()} {
		text := c.begin + "A: b\r\nc: d\r\n\r\n"
		room := []byte(text + "behind")
		handed := room[:len(text)]
		first, n, err := c.read(handed)
		second, _, _ := c.read(handed)
		if string(room) != text+"behind" || n != len(text) || err != api.OK {
			t.Fatalf("%s changed what it was handed, or did not read it: %q", c.name, room)
		}
		if _, _, err := c.read(handed[:len(text)-1]); err != api.ErrShort {
			t.Errorf("%s read spare room: %d", c.name, err)
		}
		clear(room)
		for i := range first.Fields[:cap(first.Fields)] {
			first.Fields[:cap(first.Fields)][i] = api.Field{Name: "x", Value: "y"}
		}
		want := c.told
		want.Fields = fields("A", "b", "c", "d")
		if !same(second, want) {
			t.Errorf("%s: an answer changed with another, or with what was handed in: %q", c.name, shown(second))
		}
		c.want(t, text, want, len(text))
	}
}

// R4: a message that is handed in is not changed, and an answer is new memory.
func TestPutAnswersNewBytes(t *testing.T) {
	room := fields("A", "b", "c", "d", "e", "f")
	m := api.Message{Method: "GET", Target: "/", Fields: room[:2], Body: []byte("body")}
	first, _ := heads.Put(m)
	second, _ := heads.Put(m)
	want := "GET / HTTP/1.1\r\nA: b\r\nc: d\r\n\r\n"
	first = first[:cap(first)]
	for i := range first {
		first[i] = 'x'
	}
	if string(second) != want || !slices.Equal(room, fields("A", "b", "c", "d", "e", "f")) || string(m.Body) != "body" {
		t.Errorf("changed: %q, %q, %q", second, room, m.Body)
	}
	wantPut(t, m, want)
}

// R4: a list that is handed in is not changed, and an answer is new memory.
func TestFindAnswersNewLists(t *testing.T) {
	room := fields("A", "1", "b", "2", "a", "3", "A", "4")
	first := heads.Find(room[:3], "a")
	second := heads.Find(room[:3], "a")
	first = first[:cap(first)]
	for i := range first {
		first[i] = "x"
	}
	if !slices.Equal(second, []string{"1", "3"}) || !slices.Equal(room, fields("A", "1", "b", "2", "a", "3", "A", "4")) {
		t.Errorf("changed: %q, %q", second, room)
	}
	room[0].Value = "5"
	if !slices.Equal(second, []string{"1", "3"}) {
		t.Errorf("an answer changed with what was handed in: %q", second)
	}
}

// R5: what is answered hangs on nothing that was asked ahead.
func TestNothingIsKept(t *testing.T) {
	texts := []string{"", responseBegin + end, "x" + end + end, requestBegin + "A: b\r\n\r\n", strings.Repeat("a", api.MaxHead), responseBegin}
	o := newOracle()
	for _, ahead := range texts {
		for _, text := range texts {
			for _, c := range []call{get(), request()} {
				c.read([]byte(ahead))
				c.wantByWords(t, o, text)
			}
		}
	}
}
