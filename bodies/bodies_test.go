package bodies_test

import (
	"bytes"
	"fmt"
	"math"
	"math/big"
	"math/rand"
	"regexp"
	"slices"
	"strings"
	"testing"

	"footman/api"
	"footman/bodies"
)

const (
	tokenSigns = "ABCDEFGHIJKLMNOPQRSTUVWXYZabcdefghijklmnopqrstuvwxyz0123456789!#$%&'*+-.^_`|~"
	hexSigns   = "0123456789abcdefABCDEF"

	end  = "\r\n"
	last = "0\r\n\r\n"

	codes   = "Transfer-Encoding"
	lengths = "Content-Length"
)

// of is a response with fields of names and values, by turns.
func of(status int, texts ...string) api.Message {
	m := api.Message{Status: status}
	for i := 0; i < len(texts); i += 2 {
		m.Fields = append(m.Fields, api.Field{Name: texts[i], Value: texts[i+1]})
	}
	return m
}

// ofLengths is a response with so many fields Content-Length.
func ofLengths(values ...string) api.Message {
	var texts []string
	for _, value := range values {
		texts = append(texts, lengths, value)
	}
	return of(200, texts...)
}

// shown: what How is asked of, as text, not too long a one.
func shown(m api.Message) string {
	text := fmt.Sprintf("%d %q", m.Status, m.Fields)
	return text[:min(len(text), 300)]
}

func wantHow(t *testing.T, method string, m api.Message, kind bodies.Kind, length int) {
	t.Helper()
	if k, n, err := bodies.How(method, m); k != kind || n != length || err != api.OK {
		t.Errorf("How(%q, %s): %d, %d, %d, not %d, %d, 0", method, shown(m), k, n, err, kind, length)
	}
}

func wantNoHow(t *testing.T, m api.Message, want api.Errno) {
	t.Helper()
	if k, n, err := bodies.How("GET", m); k != 0 || n != 0 || err != want {
		t.Errorf("How(GET, %s): %d, %d, %d, not nothing, %d", shown(m), k, n, err, want)
	}
}

func wantChunked(t *testing.T, text, want string, length int, done bool) {
	t.Helper()
	got, n, gotDone, err := bodies.Chunked([]byte(text))
	if string(got) != want || n != length || gotDone != done || err != api.OK {
		t.Errorf("Chunked(%.300q): %.300q, %d, %v, %d, not %.300q, %d, %v, 0", text, got, n, gotDone, err, want, length, done)
	}
}

// wantWhole: a body by its chunks, alone and whatever stands behind it.
func wantWhole(t *testing.T, text, want string) {
	t.Helper()
	for _, behind := range []string{"", "x", "\r", "\n", end, last, text, "\x00", "zz\r\n", strings.Repeat("x", 2*api.MaxHead)} {
		wantChunked(t, text+behind, want, len(text), true)
	}
}

func wantPart(t *testing.T, text, want string) {
	t.Helper()
	wantChunked(t, text, want, len(text), false)
}

func wantNoBody(t *testing.T, text string, want api.Errno) {
	t.Helper()
	if got, n, done, err := bodies.Chunked([]byte(text)); len(got) != 0 || n != 0 || done || err != want {
		t.Errorf("Chunked(%.300q): %.300q, %d, %v, %d, not nothing, %d", text, got, n, done, err, want)
	}
}

// wantErrorOnce: an error that comes with the text's last byte, and stays whatever comes behind it.
func wantErrorOnce(t *testing.T, text string, want api.Errno) {
	t.Helper()
	if _, _, done, err := bodies.Chunked([]byte(text[:len(text)-1])); done || err != api.OK {
		t.Errorf("Chunked(%.300q): %v, %d too early", text[:len(text)-1], done, err)
	}
	for _, behind := range []string{"", "x", "\r", "\n", end, last, "\x00", strings.Repeat("x", 2*api.MaxHead)} {
		wantNoBody(t, text+behind, want)
	}
}

func wantPut(t *testing.T, body string, size int, want string) {
	t.Helper()
	if got, err := bodies.Put([]byte(body), size); string(got) != want || err != api.OK {
		t.Errorf("Put(%.300q, %d): %.300q, %d, not %.300q, 0", body, size, got, err, want)
	}
}

func wantNoPut(t *testing.T, body string, size int, want api.Errno) {
	t.Helper()
	if got, err := bodies.Put([]byte(body), size); len(got) != 0 || err != want {
		t.Errorf("Put of %d bytes, %d: %.300q, %d, not nothing, %d", len(body), size, got, err, want)
	}
}

func oneByte(c byte) string { return string([]byte{c}) }

// control: may a byte stand in neither a remark nor a value?
func control(c byte) bool { return c < 32 && c != 9 || c == 127 }

// oracle reads by the chapter's words, by patterns of whole lines and numbers of any size.
type oracle struct{ size, field, length *regexp.Regexp }

func newOracle() oracle {
	const text = `[^\x00-\x08\x0a-\x1f\x7f]*`
	return oracle{
		size:   regexp.MustCompile(`^([0-9a-fA-F]{1,16})[ \t]*(?:;` + text + `)?$`),
		field:  regexp.MustCompile("^[-A-Za-z0-9!#$%&'*+.^_`|~]+:" + text + `$`),
		length: regexp.MustCompile(`^[ \t]*([0-9]+)[ \t]*$`),
	}
}

// valued: the values of fields of a name. (Names of the tests are ASCII, so folding is as the document's.)
func valued(m api.Message, name string) []string {
	var values []string
	for _, f := range m.Fields {
		if strings.EqualFold(f.Name, name) {
			values = append(values, f.Value)
		}
	}
	return values
}

func (o oracle) how(method string, m api.Message) (bodies.Kind, int, api.Errno) {
	if method == "HEAD" || m.Status/100 == 1 || m.Status == 204 || m.Status == 304 {
		return bodies.None, 0, api.OK
	}
	coded, told := valued(m, codes), valued(m, lengths)
	if len(coded) > 0 {
		if len(told) > 0 || len(coded) > 1 || !strings.EqualFold(coded[0], "chunked") {
			return 0, 0, api.ErrBody
		}
		return bodies.Chunks, 0, api.OK
	}
	if len(told) == 0 {
		return bodies.Close, 0, api.OK
	}
	var first *big.Int
	for _, part := range strings.Split(strings.Join(told, ","), ",") {
		found := o.length.FindStringSubmatch(part)
		if found == nil {
			return 0, 0, api.ErrBody
		}
		n, _ := new(big.Int).SetString(found[1], 10)
		if first == nil {
			first = n
		}
		if first.Cmp(n) != 0 {
			return 0, 0, api.ErrBody
		}
	}
	if first.Cmp(big.NewInt(api.MaxBody)) > 0 {
		return 0, 0, api.ErrLimit
	}
	return bodies.Length, int(first.Int64()), api.OK
}

// line: the one at a text's beginning, its length with its end, and whether it is there.
func (o oracle) line(text string) (string, int, bool, api.Errno) {
	place := strings.Index(text, end)
	switch {
	case place > api.MaxHead || place < 0 && len(text) > api.MaxHead+1:
		return "", 0, false, api.ErrLimit
	case place < 0:
		return "", 0, false, api.OK
	}
	return text[:place], place + 2, true, api.OK
}

func (o oracle) chunked(text string) (string, int, bool, api.Errno) {
	body, at, trailing := "", 0, false
	for {
		line, length, there, err := o.line(text[at:])
		if err != api.OK {
			return "", 0, false, err
		}
		if !there {
			return body, len(text), false, api.OK
		}
		at += length
		if trailing {
			if line == "" {
				return body, at, true, api.OK
			}
			if !o.field.MatchString(line) {
				return "", 0, false, api.ErrBody
			}
			continue
		}
		found := o.size.FindStringSubmatch(line)
		if found == nil {
			return "", 0, false, api.ErrBody
		}
		size, _ := new(big.Int).SetString(found[1], 16)
		if size.Cmp(big.NewInt(int64(api.MaxBody-len(body)))) > 0 {
			return "", 0, false, api.ErrLimit
		}
		n := int(size.Int64())
		if n == 0 {
			trailing = true
			continue
		}
		body += text[at:min(at+n, len(text))]
		at += n
		for _, c := range []byte(end) {
			if at >= len(text) {
				return body, len(text), false, api.OK
			}
			if text[at] != c {
				return "", 0, false, api.ErrBody
			}
			at++
		}
	}
}

func (o oracle) wantHow(t *testing.T, method string, m api.Message) api.Errno {
	t.Helper()
	kind, length, want := o.how(method, m)
	if k, n, err := bodies.How(method, m); k != kind || n != length || err != want {
		t.Fatalf("How(%q, %s): %d, %d, %d, not %d, %d, %d", method, shown(m), k, n, err, kind, length, want)
	}
	return want
}

// wantChunked tells whether the body is whole, and the error.
func (o oracle) wantChunked(t *testing.T, text string) (bool, api.Errno) {
	t.Helper()
	body, length, whole, want := o.chunked(text)
	got, n, done, err := bodies.Chunked([]byte(text))
	if string(got) != body || n != length || done != whole || err != want {
		t.Fatalf("Chunked(%.300q): %.300q, %d, %v, %d, not %.300q, %d, %v, %d", text, got, n, done, err, body, length, whole, want)
	}
	return done, err
}

// P13.1
func TestHowExamples(t *testing.T) {
	wantHow(t, "GET", of(200), bodies.Close, 0)
	wantHow(t, "HEAD", of(200, lengths, "5"), bodies.None, 0)
	wantHow(t, "GET", of(204), bodies.None, 0)
	wantHow(t, "GET", of(200, lengths, "5, 5"), bodies.Length, 5)
	wantHow(t, "GET", of(200, codes, "Chunked"), bodies.Chunks, 0)
	wantNoHow(t, of(200, codes, "gzip"), api.ErrBody)
	wantNoHow(t, of(200, codes, "chunked", lengths, "1"), api.ErrBody)
	wantNoHow(t, of(200, lengths, "5, 6"), api.ErrBody)
	wantNoHow(t, of(200, lengths, "65537"), api.ErrLimit)
}

// P13.2
func TestChunkedExamples(t *testing.T) {
	wantChunked(t, "3\r\nabc\r\n0\r\n\r\nx", "abc", 13, true)
	wantChunked(t, "3;a\r\nabc\r\n1\r\nd", "abcd", 14, false)
	wantChunked(t, "0A", "", 2, false)
	wantChunked(t, "2\r\nab\r\n0\r\nA: b\r\n\r\n", "ab", 18, true)
	wantNoBody(t, "x\r\n", api.ErrBody)
	wantNoBody(t, "1\r\nab", api.ErrBody)
	wantNoBody(t, "-1\r\n", api.ErrBody)
	wantNoBody(t, "10001\r\n", api.ErrLimit)
	wantNoBody(t, "0\r\na b\r\n", api.ErrBody)
}

// P13.3
func TestPutExamples(t *testing.T) {
	wantPut(t, "abc", 2, "2\r\nab\r\n1\r\nc\r\n0\r\n\r\n")
	wantPut(t, "", 1, "0\r\n\r\n")
	wantNoPut(t, "a", 0, api.ErrArg)
}

// The kinds' numbers are those of the chapter's list.
func TestKinds(t *testing.T) {
	if bodies.None != 0 || bodies.Length != 1 || bodies.Chunks != 2 || bodies.Close != 3 {
		t.Errorf("kinds: %d, %d, %d, %d", bodies.None, bodies.Length, bodies.Chunks, bodies.Close)
	}
}

// asked is what fields ask for where a body may be.
type asked struct {
	texts []string
	kind  bodies.Kind
	n     int
	err   api.Errno
}

// allFields: fields of all kinds, wrong ones among them.
func allFields() []asked {
	return []asked{
		{nil, bodies.Close, 0, api.OK},
		{[]string{"A", "b"}, bodies.Close, 0, api.OK},
		{[]string{lengths, "5"}, bodies.Length, 5, api.OK},
		{[]string{codes, "chunked"}, bodies.Chunks, 0, api.OK},
		{[]string{lengths, "x"}, 0, 0, api.ErrBody},
		{[]string{lengths, "65537"}, 0, 0, api.ErrLimit},
		{[]string{codes, "gzip"}, 0, 0, api.ErrBody},
		{[]string{codes, "chunked", lengths, "5"}, 0, 0, api.ErrBody},
	}
}

// P13.1: statuses that have no body, and those beside them.
func TestHowOfStatuses(t *testing.T) {
	none := map[int]bool{204: true, 304: true}
	for status := 100; status <= 199; status++ {
		none[status] = true
	}
	statuses := []int{-1, 0, -100, -199, 1000, 2000, 65640, 1100, 10100, 1<<32 + 204, math.MaxInt, math.MinInt}
	for status := 1; status <= 999; status++ {
		statuses = append(statuses, status)
	}
	for _, status := range statuses {
		for _, l := range allFields() {
			m := of(status, l.texts...)
			if none[status] {
				wantHow(t, "GET", m, bodies.None, 0)
			} else if l.err != api.OK {
				wantNoHow(t, m, l.err)
			} else {
				wantHow(t, "GET", m, l.kind, l.n)
			}
		}
	}
}

// P13.1: HEAD in great letters alone has no body.
func TestHowOfMethods(t *testing.T) {
	for _, l := range allFields() {
		for _, status := range []int{0, 99, 100, 200, 204, 304, 500} {
			wantHow(t, "HEAD", of(status, l.texts...), bodies.None, 0)
		}
		for _, method := range []string{"head", "Head", "HEAd", "hEAD", "HEAD ", " HEAD", "HEADS", "HEA", "GET", "POST", "CONNECT", "", "\x00", "\xff"} {
			m := of(200, l.texts...)
			if l.err == api.OK {
				wantHow(t, method, m, l.kind, l.n)
			} else if k, n, err := bodies.How(method, m); k != 0 || n != 0 || err != l.err {
				t.Errorf("How(%q, %q): %d, %d, %d, not nothing, %d", method, l.texts, k, n, err, l.err)
			}
			wantHow(t, method, of(304, l.texts...), bodies.None, 0)
		}
	}
}

// P13.1: of a response's message no more than Status and Fields is asked for.
func TestHowOfOtherParts(t *testing.T) {
	m := of(200, lengths, "5")
	m.Method, m.Target, m.Body = "HEAD", "/", []byte("abcdefg")
	wantHow(t, "GET", m, bodies.Length, 5)
	m.Method, m.Status = "GET", 204
	wantHow(t, "GET", m, bodies.None, 0)
}

// P13.1
func TestHowByCodes(t *testing.T) {
	for _, value := range []string{"chunked", "Chunked", "CHUNKED", "cHUNKED", "chunkeD"} {
		wantHow(t, "GET", of(200, codes, value), bodies.Chunks, 0)
		wantHow(t, "GET", of(200, "A", "b", codes, value, "c", "d"), bodies.Chunks, 0)
		wantNoHow(t, of(200, codes, value, codes, value), api.ErrBody)
		wantNoHow(t, of(200, codes, value, codes, "gzip"), api.ErrBody)
		wantNoHow(t, of(200, codes, "gzip", codes, value), api.ErrBody)
		wantNoHow(t, of(200, codes, value, codes, ""), api.ErrBody)
		wantNoHow(t, of(200, codes, value, "A", "b", codes, value, codes, value), api.ErrBody)
	}
	for _, value := range []string{
		"", "gzip", "identity", "chunked, chunked", "gzip, chunked", "chunked, gzip", "chunked,", ",chunked", "chunked;a", "chunked ", " chunked",
		"\tchunked", "chunke", "chunkedd", "xchunked", "chun\u212aed", "\"chunked\"", "chunked\x00", "c", "0", "5", "\xff",
	} {
		wantNoHow(t, of(200, codes, value), api.ErrBody)
	}
}

// P13.1: both fields at once, whatever they tell.
func TestHowOfBoth(t *testing.T) {
	for _, code := range []string{"chunked", "CHUNKED", "gzip", ""} {
		for _, length := range []string{"0", "1", "65536", "65537", "99999999999999999999999", "5, 6", "x", ""} {
			wantNoHow(t, of(200, codes, code, lengths, length), api.ErrBody)
			wantNoHow(t, of(200, lengths, length, codes, code), api.ErrBody)
			wantNoHow(t, of(200, "A", "b", lengths, length, "c", "d", codes, code, lengths, length), api.ErrBody)
		}
	}
}

// P13.1: lengths that are told, once and several times.
func TestHowByLengths(t *testing.T) {
	noughts := strings.Repeat("0", 70000)
	for _, c := range []struct {
		values []string
		n      int
	}{
		{[]string{"0"}, 0}, {[]string{"00"}, 0}, {[]string{noughts}, 0}, {[]string{"0, 00," + noughts}, 0}, {[]string{"0", "00"}, 0},
		{[]string{"5"}, 5}, {[]string{"05"}, 5}, {[]string{noughts + "5"}, 5}, {[]string{"10"}, 10}, {[]string{"100"}, 100}, {[]string{"1234"}, 1234},
		{[]string{"5,5"}, 5}, {[]string{"5, 5"}, 5}, {[]string{"5 ,\t5"}, 5}, {[]string{" 5\t"}, 5}, {[]string{"\t 5 ,5,05 , 005"}, 5},
		{[]string{"5", "5"}, 5}, {[]string{"5", "05", "5,5", noughts + "5"}, 5}, {[]string{"5,05", "005"}, 5},
		{[]string{"65535"}, 65535}, {[]string{"65536"}, 65536}, {[]string{"0065536", "65536"}, 65536}, {[]string{noughts + "65536"}, 65536},
		{[]string{strings.Repeat("5,", 5000) + "5"}, 5}, {slices.Repeat([]string{"5"}, 5000), 5},
	} {
		wantHow(t, "GET", ofLengths(c.values...), bodies.Length, c.n)
	}
}

// P13.1: above MaxBody, but the same number everywhere.
func TestHowAboveLimit(t *testing.T) {
	noughts := strings.Repeat("0", 70000)
	for _, value := range []string{
		"65537", "065537", noughts + "65537", "65540", "70000", "100000", "655360", "131072", "999999999999999999", "1000000000000000000",
		"4294967296", "4294967301", "9223372036854775807", "9223372036854775808", "18446744073709551615", "18446744073709551616", "18446744073709551621",
		"99999999999999999999999", noughts + "18446744073709551621", "1" + noughts, strings.Repeat("9", 70000),
	} {
		wantNoHow(t, ofLengths(value), api.ErrLimit)
		wantNoHow(t, ofLengths(value+", 0"+value), api.ErrLimit)
		wantNoHow(t, ofLengths(value, "000"+value), api.ErrLimit)
		// What is not the same is told ahead of the limit. (R2)
		for _, other := range []string{"0", "5", "", "x", "65538", value + "0", "-" + value, "1" + noughts + "1"} {
			wantNoHow(t, ofLengths(value+","+other), api.ErrBody)
			wantNoHow(t, ofLengths(other+","+value), api.ErrBody)
			wantNoHow(t, ofLengths(value, other), api.ErrBody)
			wantNoHow(t, ofLengths(other, value), api.ErrBody)
		}
	}
}

// P13.1: what is no number, and numbers that differ.
func TestHowOfWrongLengths(t *testing.T) {
	for _, value := range []string{
		"", " ", "\t", "x", "-1", "+1", "-0", "+0", "5x", "x5", "5 5", "5\t5", "0x5", "5.0", "5e1", "5_0", "1,000", ",", "5,", ",5", "5,,5", "5, ,5", ", 5",
		"5;5", "5; 5", "\"5\"", "5\r", "\n5", "5\x00", "\x005", "\u0665", "5\u0665", "\u00a05", "\xff", "5\xff", "/", ":", "a", "5,x", "x,5", "5,-5", "5,+5",
		"5, 6", "6, 5", "5,5,6", "5,6,5", "6,5,5", "5,50", "50,5", "5,15", "0,5", "5,0", "00,05", "5,6,", "65536,65537", "65537,65536", "4294967296,0",
		"18446744073709551616,0", "18446744073709551621,5", "5000000000,6000000000",
	} {
		wantNoHow(t, ofLengths(value), api.ErrBody)
		wantNoHow(t, ofLengths(value, "5"), api.ErrBody)
		wantNoHow(t, ofLengths("5", value), api.ErrBody)
		wantNoHow(t, ofLengths("5", value, "5"), api.ErrBody)
		wantNoHow(t, ofLengths(value, value), api.ErrBody)
	}
	wantNoHow(t, ofLengths("5", "6"), api.ErrBody)
	wantNoHow(t, ofLengths("5", "5", "6"), api.ErrBody)
	wantNoHow(t, ofLengths("5", "6", "5"), api.ErrBody)
	wantNoHow(t, ofLengths("5,5", "5,6"), api.ErrBody)
}

// P13.1: each byte of a length.
func TestHowOfEachByte(t *testing.T) {
	for i := range 256 {
		c := oneByte(byte(i))
		digit, blank := '0' <= i && i <= '9', i == 9 || i == 32
		for _, text := range []string{"1" + c, c + "1", "1" + c + "1", c} {
			switch {
			case blank && len(text) == 2:
				wantHow(t, "GET", ofLengths(text), bodies.Length, 1)
			case i == ',' && len(text) == 3:
				wantHow(t, "GET", ofLengths(text), bodies.Length, 1)
			case digit:
				n, _ := new(big.Int).SetString(text, 10)
				wantHow(t, "GET", ofLengths(text), bodies.Length, int(n.Int64()))
			default:
				wantNoHow(t, ofLengths(text), api.ErrBody)
			}
		}
	}
}

// P13.1: names are the same but for great and small letters.
func TestHowOfNames(t *testing.T) {
	for _, name := range []string{"content-length", "CONTENT-LENGTH", "cOnTeNt-LeNgTh"} {
		wantHow(t, "GET", of(200, name, "5"), bodies.Length, 5)
		wantHow(t, "GET", of(200, lengths, "5", "A", "b", name, "5"), bodies.Length, 5)
		wantNoHow(t, of(200, lengths, "5", name, "6"), api.ErrBody)
		wantNoHow(t, of(200, codes, "chunked", name, "5"), api.ErrBody)
	}
	for _, name := range []string{"transfer-encoding", "TRANSFER-ENCODING", "tRANSFER-eNCODING"} {
		wantHow(t, "GET", of(200, name, "chunked"), bodies.Chunks, 0)
		wantNoHow(t, of(200, codes, "chunked", name, "chunked"), api.ErrBody)
		wantNoHow(t, of(200, name, "chunked", lengths, "5"), api.ErrBody)
	}
	for _, name := range []string{
		"Content-Lengt", "Content-Lengths", "Content_Length", "Content-Length ", " Content-Length", "X-Content-Length", "ContentLength", "Content-Encoding",
		"Transfer-Encodin", "Transfer-Encodings", "Transfer_Encoding", "Tran\u017ffer-Encoding", "TE", "Transfer-Length", "", "\xff",
	} {
		wantHow(t, "GET", of(200, name, "7"), bodies.Close, 0)
		wantHow(t, "GET", of(200, name, "x", lengths, "5", name, "chunked"), bodies.Length, 5)
		wantHow(t, "GET", of(200, name, "x", codes, "chunked", name, "5"), bodies.Chunks, 0)
	}
}

// P13.1: the chapter's words, at messages made from a fixed seed.
func TestHowByWords(t *testing.T) {
	r := rand.New(rand.NewSource(13))
	o := newOracle()
	pick := func(l ...string) string { return l[r.Intn(len(l))] }
	number := func() string {
		return pick("", "0", "00", " ", "\t") + pick("5", "5", "5", "5", "0", "65536", "65537", "", "x", "-5", "99999999999999999999") + pick("", "", " ", "\t ")
	}
	met := map[api.Errno]int{}
	for range 30000 {
		m := api.Message{Status: []int{99, 100, 199, 200, 204, 205, 304, 404}[r.Intn(8)]}
		for range r.Intn(4) {
			f := api.Field{Name: pick(lengths, lengths, "content-length", codes, "A"), Value: number()}
			for range r.Intn(3) {
				f.Value += "," + number()
			}
			if strings.EqualFold(f.Name, codes) {
				f.Value = pick("chunked", "CHUNKED", "gzip", "", "chunked, chunked")
			}
			m.Fields = append(m.Fields, f)
		}
		met[o.wantHow(t, pick("GET", "GET", "GET", "HEAD", "head"), m)]++
	}
	if met[api.OK] < 1000 || met[api.ErrBody] < 1000 || met[api.ErrLimit] < 100 {
		t.Errorf("too few of a kind: %v", met)
	}
}

// P13.2
func TestChunked(t *testing.T) {
	wantPart(t, "", "")
	wantWhole(t, last, "")
	wantWhole(t, "1\r\na\r\n0\r\n\r\n", "a")
	wantWhole(t, "1\r\na\r\n1\r\nb\r\n2\r\ncd\r\n0\r\n\r\n", "abcd")
	wantWhole(t, "a\r\n0123456789\r\n0\r\n\r\n", "0123456789")
	wantWhole(t, "A\r\n0123456789\r\n0\r\n\r\n", "0123456789")
	wantWhole(t, "10\r\n0123456789abcdef\r\n0\r\n\r\n", "0123456789abcdef")
	// What is in a chunk is bytes, whatever they would be elsewhere.
	wantWhole(t, "2\r\n\r\n\r\n0\r\n\r\n", "\r\n")
	wantWhole(t, "5\r\n0\r\n\r\n\r\n0\r\n\r\n", "0\r\n\r\n")
	wantWhole(t, "4\r\n\x00\xff\n\r\r\n0\r\n\r\n", "\x00\xff\n\r")
	wantWhole(t, "1\r\n\r\r\n1\r\n\n\r\n0\r\n\r\n", "\r\n")
	wantWhole(t, "3\r\n\x80\x81\xc3\r\n0\r\n\r\n", "\x80\x81\xc3")
	// The first chunk of size 0 is the last one: a size has no place behind it.
	wantNoBody(t, "0\r\n1\r\na\r\n0\r\n\r\n", api.ErrBody)
	wantNoBody(t, "1\r\na\r\n0\r\n0\r\n\r\n", api.ErrBody)
}

// wholeBodies: some bodies by their chunks, and what they are.
func wholeBodies() map[string]string {
	return map[string]string{
		last:                           "",
		"3\r\nabc\r\n0\r\n\r\n":        "abc",
		"2\r\nab\r\n0\r\nA: b\r\n\r\n": "ab",
		"00\r\nA:\r\nb:c\r\n\r\n":      "",
		"02 \t;x=\"y\"\r\n\r\n\r\n1;\r\nc\r\n000 ; z\r\nA: \xff\r\n\r\n":  "\r\nc",
		"000000000000000B\r\n0\r\n\r\n1\r\na\r\n\r\n0\r\n\r\n":            "0\r\n\r\n1\r\na\r\n",
		"1\r\na\r\n1\r\nb\r\n1\r\nc\r\n0000000000000000\t\r\nx: \r\n\r\n": "abc",
	}
}

// P13.2, P13.4: every shorter piece of a body is not done, and what it is so far is a beginning of it.
func TestEveryShorterPiece(t *testing.T) {
	o := newOracle()
	for text, want := range wholeBodies() {
		wantWhole(t, text, want)
		for i := range len(text) {
			if done, err := o.wantChunked(t, text[:i]); done || err != api.OK {
				t.Errorf("Chunked(%q): %v, %d", text[:i], done, err)
			}
			if body, _, _, _ := bodies.Chunked([]byte(text[:i])); !strings.HasPrefix(want, string(body)) {
				t.Errorf("Chunked(%q): %q is no beginning of %q", text[:i], body, want)
			}
		}
	}
}

// P13.2: a chunk's bytes are told as far as they are there.
func TestChunkedSoFar(t *testing.T) {
	for _, c := range []struct{ text, want string }{
		{"3", ""}, {"3\r", ""}, {"3\r\n", ""}, {"3\r\na", "a"}, {"3\r\nab", "ab"}, {"3\r\nabc", "abc"}, {"3\r\nabc\r", "abc"}, {"3\r\nabc\r\n", "abc"},
		{"3\r\nabc\r\n1", "abc"}, {"3\r\nabc\r\n1\r\n", "abc"}, {"3\r\nabc\r\n1\r\nd", "abcd"}, {"3\r\nabc\r\n0", "abc"}, {"3\r\nabc\r\n0\r\n", "abc"},
		{"3\r\nabc\r\n0\r\n\r", "abc"}, {"3\r\nabc\r\n0\r\nA", "abc"}, {"3\r\nabc\r\n0\r\nA: b\r\n", "abc"}, {"3\r\nabc\r\n0\r\nA: b\r\n\r", "abc"},
		{"3\r\n\r\n", "\r\n"}, {"10000\r\nab", "ab"},
		// A line is asked for what it must be behind its end alone.
		{"x", ""}, {"\r", ""}, {"\n", ""}, {"-1\r", ""}, {"\x00\n", ""}, {"00000000000000001", ""}, {"fffffffffffffffff", ""}, {"10001\r", ""},
		{"3\r\nabc\r\n \r", "abc"}, {"0\r\n:", ""}, {"0\r\na b\r", ""}, {"0\r\n\n", ""}, {"0\r\n\r\r", ""}, {"0\r\n x", ""},
	} {
		wantPart(t, c.text, c.want)
	}
}

// P13.2: lines of sizes that may be.
func TestSizes(t *testing.T) {
	for _, size := range []string{"b", "B", "0b", "0B", "00b", "000000000000000b", "000000000000000B"} {
		for _, behind := range []string{
			"", " ", "\t", " \t \t", strings.Repeat(" ", 1000), ";", " ;", "\t;", ";;", ";a", "; a", ";a=b", ";a=\"b;c\"", " \t;a b\tc", ";\t", "; ", ";\xff", ";é\x80",
			";0", ";\"", ";~", ";:", ";" + strings.Repeat("x", 1000),
		} {
			wantWhole(t, size+behind+"\r\n01234567890\r\n0\r\n\r\n", "01234567890")
			wantWhole(t, "1\r\nx\r\n"+size+behind+"\r\n01234567890\r\n0\r\n\r\n", "x01234567890")
			wantWhole(t, "1\r\nx\r\n"+strings.Map(nought, size)+behind+"\r\n\r\n", "x")
		}
	}
	for i := range len(hexSigns) {
		n := strings.Index("0123456789abcdef", strings.ToLower(hexSigns[i:i+1]))
		filled := strings.Repeat("y", n+16)
		wantWhole(t, "1"+hexSigns[i:i+1]+"\r\n"+filled+"\r\n0\r\n\r\n", filled)
		wantPart(t, hexSigns[i:i+1]+"0\r\n", "")
	}
}

// nought: a size of noughts, as long as another one.
func nought(r rune) rune { return '0' }

// P13.2: lines that are no sizes, as a first line and behind a chunk.
func TestWrongSizes(t *testing.T) {
	for _, line := range []string{
		"", " ", "\t", ";", ";a", " ;", " 1", "\t1", " 0", "-1", "+1", "-0", "+0", "x", "g", "G", "1g", "g1", "0x1", "0X1", "1x", "1h", "1.0", "1_0", "1,0", "1 1", "1\t1",
		"1 a", "1 0 ;a", "1 a;", "1:", "1=", "1\"", "\"1\"", "1,", "1 ,", "1a:b", "/", ":", "@", "`", "1\u00a0", "1\u2003;", "\u0661", "1\u0661", "\uff11", "é", "\xff", "1\xff",
		"00000000000000001", "00000000000000000", "fffffffffffffffff", "00000000000000001;a", "10000000000000000", strings.Repeat("0", 1000), strings.Repeat("f", 1000),
		"1;a\x00", "1;\x01", "1;\x1f", "1;\x7f", "1;\v", "1;\f", "1;\b", "1;\n", "1;\r", "1;a\nb", "1;a\rb", "1;a\r", "1\n", "1\r", "\n1", "\r1", "1\n;a", "1\r;a", "1 \n", "1\x00", "\x001",
		"1\v", "1\f;", "1\x7f", "A: b", "HTTP/1.1 200",
	} {
		wantErrorOnce(t, line+end, api.ErrBody)
		wantErrorOnce(t, "2\r\nab\r\n"+line+end, api.ErrBody)
	}
}

// P13.2: each byte of a line of a size, at each place.
func TestSizesOfEachByte(t *testing.T) {
	o := newOracle()
	for i := range 256 {
		c := oneByte(byte(i))
		for _, line := range []string{c, c + "1", "1" + c, "1" + c + "1", "1 " + c, "1 " + c + ";", "1;" + c, "1;a" + c, "1;" + c + "a", "1 \t" + c + "a", c + ";"} {
			for _, ahead := range []string{"", "2\r\nab\r\n"} {
				o.wantChunked(t, ahead+line+end)
				o.wantChunked(t, ahead+line+end+"z\r\n0\r\n\r\n")
			}
		}
		if line := "1;a" + c + "b" + end; control(byte(i)) {
			wantErrorOnce(t, line, api.ErrBody)
		} else {
			wantPart(t, line, "")
		}
		if line := "00" + c + end + end; i == 9 || i == 32 || i == ';' || i == '0' {
			wantWhole(t, line, "")
		} else if !strings.Contains(hexSigns, c) {
			wantErrorOnce(t, line[:5], api.ErrBody)
		}
	}
}

// P13.2: the two bytes behind a chunk's bytes.
func TestChunkEnds(t *testing.T) {
	for i := range 256 {
		c := oneByte(byte(i))
		for _, ahead := range []string{"1\r\na", "3\r\na\r\n", "2\r\nab\r\n1;x\r\n\r"} {
			if i != '\r' {
				wantErrorOnce(t, ahead+c, api.ErrBody)
			}
			if i != '\n' {
				wantErrorOnce(t, ahead+"\r"+c, api.ErrBody)
			}
		}
	}
	wantNoBody(t, "1\r\na0\r\n\r\n", api.ErrBody)
	wantNoBody(t, "1\r\na\n0\r\n\r\n", api.ErrBody)
	wantNoBody(t, "1\r\na\n\r0\r\n\r\n", api.ErrBody)
	wantNoBody(t, "1\r\n\r\n0\r\n\r\n", api.ErrBody)
	wantNoBody(t, "1\r\nab\r\n0\r\n\r\n", api.ErrBody)
	wantNoBody(t, "3\r\nab\r\n0\r\n\r\n", api.ErrBody)
	// An empty line there is no size.
	wantNoBody(t, "1\r\na\r\n\r\n0\r\n\r\n", api.ErrBody)
}

// P13.2: sizes of MaxBody together, and of one more, in one chunk and in several.
func TestMaxBody(t *testing.T) {
	most := strings.Repeat("x", api.MaxBody)
	whole := "10000\r\n" + most + end
	wantWhole(t, whole+last, most)
	wantPart(t, "10000\r\n", "")
	wantPart(t, whole, most)
	wantErrorOnce(t, "10001\r\n", api.ErrLimit)
	wantErrorOnce(t, whole+"1\r\n", api.ErrLimit)
	wantErrorOnce(t, whole+"1;a\r\n", api.ErrLimit)
	wantErrorOnce(t, whole+"10000\r\n", api.ErrLimit)
	many := strings.Repeat("1\r\nx\r\n", api.MaxBody)
	wantWhole(t, many+last, most)
	wantErrorOnce(t, many+"1\r\n", api.ErrLimit)
	half := "8000\r\n" + most[:0x8000] + end
	wantWhole(t, half+half+last, most)
	wantPart(t, half+"8000\r\n", most[:0x8000])
	wantErrorOnce(t, half+"8001\r\n", api.ErrLimit)
	wantErrorOnce(t, half+half+"1\r\n", api.ErrLimit)
	wantWhole(t, "1\r\nx\r\nffff\r\n"+most[1:]+end+last, most)
	wantErrorOnce(t, "1\r\nx\r\n10000\r\n", api.ErrLimit)
	for _, size := range []string{
		"10001", "20000", "100000", "7fffffff", "80000000", "ffffffff", "100000000", "100000001", "7fffffffffffffff", "8000000000000000", "8000000000000001",
		"fffffffffffffffe", "FFFFFFFFFFFFFFFF", "0000000000010001", "0010001",
	} {
		for _, ahead := range []string{"", "1\r\na\r\n", "3\r\nabc\r\n1\r\nd\r\n"} {
			wantErrorOnce(t, ahead+size+end, api.ErrLimit)
			wantErrorOnce(t, ahead+size+" \t;a"+end, api.ErrLimit)
		}
	}
}

// P13.2: a line of MaxHead bytes and of more, with its end and without it, wherever it stands.
func TestMaxHead(t *testing.T) {
	o := newOracle()
	for _, c := range []struct{ ahead, begin string }{
		{"", "0;"}, {"", "1;"}, {"", "1 ;"}, {"2\r\nab\r\n", "0;"}, {"2\r\nab\r\n", "1 \t;"}, {"0\r\n", "A:"}, {"0\r\n", "A: "}, {"2\r\nab\r\n0\r\nx: y\r\n", "A:"},
	} {
		for _, more := range []int{-2, -1, 0, 1, 2, 3, 1000, api.MaxHead} {
			for _, fill := range []string{"x", " ", "\xff"} {
				line := c.begin + strings.Repeat(fill, api.MaxHead+more-len(c.begin))
				text := c.ahead + line
				if more > 0 {
					wantNoBody(t, text+end, api.ErrLimit)
					wantNoBody(t, text+end+"a\r\n0\r\n\r\n", api.ErrLimit)
				} else if _, err := o.wantChunked(t, text+end); err != api.OK {
					t.Errorf("Chunked of a line of %d bytes: %d", len(line), err)
				}
				// Without its end there may be MaxHead + 1 bytes: the last one may be an end's first.
				if more > 1 {
					wantNoBody(t, text, api.ErrLimit)
					wantNoBody(t, text[:len(text)-1]+"\r", api.ErrLimit)
				} else if _, err := o.wantChunked(t, text); err != api.OK {
					t.Errorf("Chunked of %d bytes without an end: %d", len(line), err)
				}
				o.wantChunked(t, text+"\r")
				o.wantChunked(t, text+"\n")
				o.wantChunked(t, text+end+end)
			}
		}
	}
	wantErrorOnce(t, strings.Repeat("\x00", api.MaxHead+2), api.ErrLimit)
	wantErrorOnce(t, "0\r\n"+strings.Repeat("\n", api.MaxHead+2), api.ErrLimit)
	wantErrorOnce(t, strings.Repeat("1", api.MaxHead)+"\r\r", api.ErrLimit)
	wantErrorOnce(t, "1\r\na\r\n"+strings.Repeat("1", api.MaxHead)+"x\r", api.ErrLimit)
	// A line of blanks alone behind a size may be as long.
	wantWhole(t, "0"+strings.Repeat(" ", api.MaxHead-1)+end+end, "")
	wantWhole(t, "0"+strings.Repeat("\t", api.MaxHead-2)+";"+end+end, "")
	// Lines are measured one by one, and a chunk's bytes are no line.
	lines := strings.Repeat("A: "+strings.Repeat("b", api.MaxHead-3)+end, 5)
	wantWhole(t, "0;"+strings.Repeat("x", api.MaxHead-2)+end+lines+end, "")
	wantWhole(t, "10000\r\n"+strings.Repeat("x", api.MaxBody)+end+last, strings.Repeat("x", api.MaxBody))
}

// P13.2: lines behind the last chunk.
func TestFields(t *testing.T) {
	for _, lines := range []string{
		"", "A: b\r\n", "A:b\r\n", "A:\r\n", "A: \r\n", "A: \t b \t \r\n", "A: b: c\r\n", "A::\r\n", "A: \xff\x80é\r\n", "A: b\r\na: b\r\nA: b\r\n", tokenSigns + ": " + tokenSigns + end,
		"0: 1\r\n", "Content-Length: 5\r\nTransfer-Encoding: gzip\r\n", "A:\"\r\n", "A:;\r\n", strings.Repeat("a: b\r\n", api.MaxFields+1), strings.Repeat("a:\r\n", 50000),
	} {
		wantWhole(t, "0\r\n"+lines+end, "")
		wantWhole(t, "2\r\nab\r\n00;x\r\n"+lines+end, "ab")
		wantPart(t, "2\r\nab\r\n0\r\n"+lines, "ab")
		wantPart(t, "2\r\nab\r\n0\r\n"+lines+"\r", "ab")
	}
	for _, line := range []string{
		"A", " ", "\t", ":", ": b", ":b:c", " : b", "A b", "a b", "A b: c", "A : b", "A\t: b", " A: b", "\tA: b", " b", "\tb", "A=b", "A;b", "A;: b", "A,B: c", "(A): b", "\"A\": b",
		"A/B: c", "A@B: c", "A[B]: c", "A{: b", "é: b", "A\xff: b", "\u212a: b", "0", "1", "0;a", "A: b\nc: d", "A: b\rc: d", "A: b\n", "A: b\r", "A: \nb", "A: \rb", "A\n: b", "\nA: b", "\rA: b",
		"\n", "\r", "A: b\x00", "A: \x00b", "A: b\x1fc", "A: b\x7f", "A: b\v", "A\x00: b", "A\x7f: b", "\x00: b", "\x00", "\xff", "HTTP/1.1 200",
	} {
		for _, ahead := range []string{"0\r\n", "2\r\nab\r\n0\r\n", "0\r\nx: y\r\n", "0\r\nx: y\r\nz:\r\n"} {
			wantErrorOnce(t, ahead+line+end, api.ErrBody)
		}
	}
}

// P13.2: each byte of a line behind the last chunk.
func TestFieldsOfEachByte(t *testing.T) {
	for i := range 256 {
		c := oneByte(byte(i))
		for _, name := range []string{c, "A" + c, c + "A", "A" + c + "B"} {
			if strings.Contains(tokenSigns, c) || i == ':' && name[0] == 'A' {
				wantWhole(t, "0\r\n"+name+": b\r\n\r\n", "")
			} else {
				wantErrorOnce(t, "0\r\n"+name+": b\r\n", api.ErrBody)
			}
		}
		for _, value := range []string{c, "b" + c, c + "b", "b" + c + "d"} {
			if control(byte(i)) {
				wantErrorOnce(t, "0\r\nA:"+value+end, api.ErrBody)
			} else {
				wantWhole(t, "0\r\nA:"+value+"\r\n\r\n", "")
			}
		}
	}
}

// P13.2: of several errors the one that stands first in the bytes; of a line's, its length first. (R2)
func TestErrorsInOrder(t *testing.T) {
	long := strings.Repeat("x", api.MaxHead+1)
	for _, c := range []struct {
		text string
		want api.Errno
	}{
		{"x\r\n" + long + "\r\n", api.ErrBody},
		{long + "\r\nx\r\n", api.ErrLimit},
		{"1;\x00" + long + "\r\n", api.ErrLimit},
		{"10001;" + long + "\r\n", api.ErrLimit},
		{"10001 x\r\n", api.ErrBody},
		{"10001;\x00\r\n", api.ErrBody},
		{"00000000000010001\r\n", api.ErrBody},
		{"fffffffffffffffff\r\n", api.ErrBody},
		{"10001\r\nx\r\n", api.ErrLimit},
		{"x\r\n10001\r\n", api.ErrBody},
		{"1\r\nab10001\r\n", api.ErrBody},
		{"1\r\na\r\n10001\r\nb", api.ErrLimit},
		{"1\r\nab" + long + "x", api.ErrBody},
		{"1\r\na\r\n" + long + "x", api.ErrLimit},
		{"0\r\na b\r\n" + long + "\r\n", api.ErrBody},
		{"0\r\n" + long + "x\r\na b\r\n", api.ErrLimit},
		{"0\r\n\r\n" + long + "x", api.OK},
	} {
		if _, _, _, err := bodies.Chunked([]byte(c.text)); err != c.want {
			t.Errorf("Chunked(%.300q): %d, not %d", c.text, err, c.want)
		}
	}
}

// P13.2: the chapter's words, at bytes made from a fixed seed: pieces of bodies, some of them wrong.
func TestChunkedByWords(t *testing.T) {
	r := rand.New(rand.NewSource(14))
	o := newOracle()
	pieces := []string{
		end, end, end, "\r", "\n", "0", "1", "2", "a", "0\r\n", "0\r\n\r\n", "1\r\na\r\n", "2\r\nab\r\n", "2;x\r\n\r\n\r\n", "A: b\r\n", "A:\r\n", "A: b", " ", "\t", ";", ";x", ":", "\x00", "\xff",
		"10000\r\n", "ffff\r\n", "10001\r\n", "-1\r\n", " 1\r\n", "a b\r\n", "00000000000000001\r\n",
	}
	met := map[api.Errno]int{}
	for range 60000 {
		var text strings.Builder
		if r.Intn(2) == 0 {
			text.WriteString("2\r\nab\r\n")
		}
		for range r.Intn(8) {
			text.WriteString(pieces[r.Intn(len(pieces))])
		}
		done, err := o.wantChunked(t, text.String())
		met[err]++
		if done {
			met[-1]++
		}
	}
	if met[api.OK] < 1000 || met[api.ErrBody] < 1000 || met[api.ErrLimit] < 100 || met[-1] < 1000 {
		t.Errorf("too few of a kind: %v", met)
	}
}

// P13.2: however many bytes are there, what was told of fewer holds on: an error, an end, a beginning of the body.
func TestFewerBytesTellTheSame(t *testing.T) {
	r := rand.New(rand.NewSource(15))
	signs := []string{"0", "1", "2", "a", end, end, end, "\r", "\n", "A: b", ":", ";", "1\r\nx\r\n", "0\r\n"}
	for range 5000 {
		text := ""
		for range 1 + r.Intn(9) {
			text += signs[r.Intn(len(signs))]
		}
		whole, n, done, err := bodies.Chunked([]byte(text))
		for i := range len(text) {
			part, partN, partDone, partErr := bodies.Chunked([]byte(text[:i]))
			switch {
			case partErr != api.OK:
				if err != partErr {
					t.Fatalf("Chunked(%q): %d, but %d of %d bytes", text, err, partErr, i)
				}
			case partDone:
				if !done || partN != n || !bytes.Equal(part, whole) {
					t.Fatalf("Chunked(%q): %q, %d, %v, but done at %d", text, whole, n, done, i)
				}
			case err == api.OK:
				if partN != i || !bytes.HasPrefix(whole, part) {
					t.Fatalf("Chunked(%q): %q of %d bytes is no beginning of %q", text, part, i, whole)
				}
			}
		}
	}
}

// R1: any bytes, as far as they form no sign.
func TestAnyBytes(t *testing.T) {
	o := newOracle()
	for i := range 256 {
		for _, n := range []int{0, 1, 2, 3, 100, api.MaxHead, api.MaxHead + 1, api.MaxHead + 2, 2 * api.MaxHead} {
			o.wantChunked(t, strings.Repeat(oneByte(byte(i)), n))
			o.wantChunked(t, "0\r\n"+strings.Repeat(oneByte(byte(i)), n))
		}
	}
	r := rand.New(rand.NewSource(16))
	for range 5000 {
		b := make([]byte, r.Intn(40))
		r.Read(b)
		o.wantChunked(t, string(b))
		o.wantChunked(t, "9\r\n"+string(b))
		o.wantChunked(t, "0\r\n"+string(b))
	}
}

// P13.3
func TestPut(t *testing.T) {
	wantPut(t, "", api.MaxBody, last)
	wantPut(t, "a", 1, "1\r\na\r\n"+last)
	wantPut(t, "a", api.MaxBody, "1\r\na\r\n"+last)
	wantPut(t, "abc", 1, "1\r\na\r\n1\r\nb\r\n1\r\nc\r\n"+last)
	wantPut(t, "abc", 3, "3\r\nabc\r\n"+last)
	wantPut(t, "abc", 4, "3\r\nabc\r\n"+last)
	wantPut(t, "abcd", 2, "2\r\nab\r\n2\r\ncd\r\n"+last)
	wantPut(t, "abcde", 2, "2\r\nab\r\n2\r\ncd\r\n1\r\ne\r\n"+last)
	wantPut(t, "0123456789", 10, "a\r\n0123456789\r\n"+last)
	wantPut(t, "0123456789abcdef", 15, "f\r\n0123456789abcde\r\n1\r\nf\r\n"+last)
	wantPut(t, "0123456789abcdef", 16, "10\r\n0123456789abcdef\r\n"+last)
	wantPut(t, "0\r\n\r\n", 4, "4\r\n0\r\n\r\r\n1\r\n\n\r\n"+last)
	wantPut(t, "\x00\xff\x80", 2, "2\r\n\x00\xff\r\n1\r\n\x80\r\n"+last)
	long := strings.Repeat("y", 0xabc)
	wantPut(t, long, 0xabc, "abc\r\n"+long+end+last)
	wantPut(t, long+"z", 0xabc, "abc\r\n"+long+"\r\n1\r\nz\r\n"+last)
}

// P13.3: sizes and bodies at the limits.
func TestPutLimits(t *testing.T) {
	most := strings.Repeat("x", api.MaxBody)
	wantPut(t, most, api.MaxBody, "10000\r\n"+most+end+last)
	wantPut(t, most, api.MaxBody-1, "ffff\r\n"+most[1:]+"\r\n1\r\nx\r\n"+last)
	wantPut(t, most, 0x8000, strings.Repeat("8000\r\n"+most[:0x8000]+end, 2)+last)
	wantPut(t, most, 1, strings.Repeat("1\r\nx\r\n", api.MaxBody)+last)
	for _, size := range []int{0, -1, -2, api.MaxBody + 1, api.MaxBody + 2, 1 << 32, 1<<32 + 1, math.MaxInt, math.MinInt} {
		for _, body := range []string{"", "a", most, most + "x"} {
			wantNoPut(t, body, size, api.ErrArg)
		}
	}
	for _, size := range []int{1, 2, api.MaxBody} {
		wantNoPut(t, most+"x", size, api.ErrLimit)
		wantNoPut(t, most+most, size, api.ErrLimit)
	}
}

// P13.4: Chunked of Put is the body, whatever stands behind it; of fewer bytes it is a beginning, and not done.
func TestChunkedOfPut(t *testing.T) {
	r := rand.New(rand.NewSource(17))
	for range 400 {
		body := make([]byte, r.Intn(60))
		for i := range body {
			body[i] = "0a\r\n;\xff"[r.Intn(6)]
		}
		put, err := bodies.Put(body, 1+r.Intn(len(body)+2))
		if err != api.OK {
			t.Fatalf("Put(%q): %d", body, err)
		}
		wantWhole(t, string(put), string(body))
		ahead := 0
		for i := range len(put) {
			part, n, done, err := bodies.Chunked(put[:i])
			if !bytes.HasPrefix(body, part) || len(part) < ahead || n != i || done || err != api.OK {
				t.Fatalf("Chunked(%q): %q, %d, %v, %d", put[:i], part, n, done, err)
			}
			ahead = len(part)
		}
	}
}

// P13.4: bodies of MaxBody bytes.
func TestChunkedOfPutOfMost(t *testing.T) {
	body := make([]byte, api.MaxBody)
	rand.New(rand.NewSource(18)).Read(body)
	for _, size := range []int{1, 2, 7, 255, 4096, 65535, 65536} {
		put, err := bodies.Put(body, size)
		if err != api.OK {
			t.Fatalf("Put by %d: %d", size, err)
		}
		wantChunked(t, string(put)+"x", string(body), len(put), true)
		for _, length := range []int{0, 1, 2, 7, 100, 1000, 50000, len(put) - 1, len(put) - 2, len(put) - 3} {
			part, n, done, err := bodies.Chunked(put[:length])
			if !bytes.HasPrefix(body, part) || n != length || done || err != api.OK {
				t.Fatalf("Chunked of %d bytes by %d: %d bytes, %d, %v, %d", length, size, len(part), n, done, err)
			}
		}
	}
}

// spared is a slice of a text with spare room that is filled, and all of its memory.
func spared(text string) ([]byte, []byte) {
	all := append([]byte(text), strings.Repeat("#", 100)...)
	return all[:len(text)], all
}

func fill(b []byte) {
	b = b[:cap(b)]
	for i := range b {
		b[i] = '?'
	}
}

// R4: arguments stay as they were, their spare room too.
func TestArgumentsStay(t *testing.T) {
	for _, text := range []string{"", "3\r\nabc\r\n0\r\n\r\nx", "3\r\nab", "3\r\nabc\r\n", "x\r\n", "abc"} {
		b, all := spared(text)
		before := string(all)
		bodies.Chunked(b)
		bodies.Put(b, 1)
		bodies.Put(b, api.MaxBody)
		bodies.Put(b, 0)
		if string(all) != before {
			t.Errorf("%q: changed to %q", before, all)
		}
	}
	l := append(make([]api.Field, 0, 4), api.Field{Name: "CONTENT-length", Value: " 05 , 5"}, api.Field{Name: codes, Value: "CHUNKED"})
	before := slices.Clone(l[:4])
	for n := range 3 {
		bodies.How("GET", api.Message{Status: 200, Fields: l[:n]})
	}
	bodies.How("GET", api.Message{Status: 200, Fields: l[1:2]})
	if !slices.Equal(l[:4], before) {
		t.Errorf("fields changed to %q", l[:4])
	}
}

// R4: an answer's memory is its own, its spare room too.
func TestAnswersAreNew(t *testing.T) {
	for _, text := range []string{"3\r\nabc\r\n0\r\n\r\nx", "3\r\nab", "3\r\nabc\r\n1\r\nd\r\n0\r\nA: b\r\n\r\n", "0\r\n\r\n", ""} {
		b, all := spared(text)
		before := string(all)
		first, _, _, _ := bodies.Chunked(b)
		second, _, _, _ := bodies.Chunked(b)
		want := string(second)
		fill(first)
		if string(second) != want || string(all) != before {
			t.Errorf("Chunked(%q): an answer changed with another one, or with it what was handed in", text)
		}
		fill(all)
		if string(second) != want {
			t.Errorf("Chunked(%q): an answer changed with what was handed in", text)
		}
	}
	for _, size := range []int{1, 3, 5} {
		b, all := spared("abcde")
		before := string(all)
		first, _ := bodies.Put(b, size)
		second, _ := bodies.Put(b, size)
		want := string(second)
		fill(first)
		if string(second) != want || string(all) != before {
			t.Errorf("Put by %d: an answer changed with another one, or with it what was handed in", size)
		}
		fill(all)
		if string(second) != want {
			t.Errorf("Put by %d: an answer changed with what was handed in", size)
		}
	}
}

// R4: nil and empty mean the same.
func TestNilIsEmpty(t *testing.T) {
	for _, b := range [][]byte{nil, {}} {
		if got, n, done, err := bodies.Chunked(b); len(got) != 0 || n != 0 || done || err != api.OK {
			t.Errorf("Chunked of nothing: %q, %d, %v, %d", got, n, done, err)
		}
		if got, err := bodies.Put(b, 1); string(got) != last || err != api.OK {
			t.Errorf("Put of nothing: %q, %d", got, err)
		}
	}
	for _, l := range [][]api.Field{nil, {}} {
		wantHow(t, "GET", api.Message{Status: 200, Fields: l}, bodies.Close, 0)
	}
}
