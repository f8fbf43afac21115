package httpwire

import (
	"bytes"
	"strconv"
	"strings"

	"rolodex/api"
)

const (
	mostSizeDigits   = 8
	mostLengthDigits = 9
)

// requestLine reads a request's first line.
func requestLine(line string) (method, path string, ok bool) {
	words := strings.Split(line, " ")
	if len(words) != 3 || words[2] != version || !goodMethod(words[0]) || !goodPath(words[1]) {
		return "", "", false
	}
	return words[0], words[1], true
}

// responseLine reads a response's first line.
func responseLine(line string) (int, bool) {
	rest, ok := strings.CutPrefix(line, version+" ")
	if !ok || len(rest) < 4 || rest[3] != ' ' || !all(rest[:3], isDigit) || !all(rest, isPrinted) {
		return 0, false
	}
	code, err := strconv.Atoi(rest[:3])
	return code, err == nil && goodCode(code)
}

func headerLine(line string) (Header, bool) {
	name, rest, ok := strings.Cut(line, ":")
	h := Header{Name: name, Value: strings.Trim(rest, " \t")}
	return h, ok && goodName(h.Name) && goodValue(h.Value)
}

// read reads a head, whose first line is asked by what is given, and its body; and tells how many bytes both have.
func read(b []byte, firstLine func(string) bool) ([]Header, []byte, int, api.Errno) {
	line, at, e := headLine(b, 0)
	if e != api.OK {
		return nil, nil, 0, e
	}
	if !firstLine(line) {
		return nil, nil, 0, api.EFORM
	}
	var headers []Header
	for {
		line, at, e = headLine(b, at)
		if e != api.OK {
			return nil, nil, 0, e
		}
		if line == "" {
			break
		}
		if len(headers) == mostHeaders {
			return nil, nil, 0, api.ELIMIT
		}
		h, ok := headerLine(line)
		if !ok {
			return nil, nil, 0, api.EFORM
		}
		headers = append(headers, h)
	}
	body, n, e := readBody(b[at:], headers)
	if e != api.OK {
		return nil, nil, 0, e
	}
	return headers, body, at + n, api.OK
}

// headLine tells the head's line that begins at a place, and where the next one begins.
func headLine(b []byte, at int) (string, int, api.Errno) {
	head := b[:min(len(b), api.MaxHead)]
	n := bytes.Index(head[at:], []byte(lineEnd))
	switch {
	case n >= 0:
		return string(head[at : at+n]), at + n + len(lineEnd), api.OK
	case len(b) < api.MaxHead:
		return "", 0, api.EORDER
	}
	return "", 0, api.ELIMIT
}

func count(l []Header, name string) int {
	n := 0
	for _, h := range l {
		if sameName(h.Name, name) {
			n++
		}
	}
	return n
}

func readBody(b []byte, headers []Header) ([]byte, int, api.Errno) {
	codings, lengths := count(headers, bodyCoding), count(headers, bodyLength)
	switch {
	case codings > 0:
		coding, _ := first(headers, bodyCoding)
		if codings > 1 || lengths > 0 || !sameName(coding, chunked) {
			return nil, 0, api.EFORM
		}
		return readChunks(b)
	case lengths > 1:
		return nil, 0, api.EFORM
	case lengths == 1:
		length, _ := first(headers, bodyLength)
		return readLength(b, length)
	}
	return nil, 0, api.OK
}

func readLength(b []byte, length string) ([]byte, int, api.Errno) {
	if len(length) > mostLengthDigits || !all(length, isDigit) {
		return nil, 0, api.EFORM
	}
	n, err := strconv.Atoi(length)
	switch {
	case err != nil:
		return nil, 0, api.EFORM
	case n > api.MaxBody:
		return nil, 0, api.ELIMIT
	case n > len(b):
		return nil, 0, api.EORDER
	}
	return append([]byte(nil), b[:n]...), n, api.OK
}

func readChunks(b []byte) ([]byte, int, api.Errno) {
	var body []byte
	at := 0
	for {
		size, next, e := sizeLine(b, at)
		if e != api.OK {
			return nil, 0, e
		}
		if len(body)+size > api.MaxBody {
			return nil, 0, api.ELIMIT
		}
		end := next + size + len(lineEnd)
		if end > len(b) {
			return nil, 0, api.EORDER
		}
		if string(b[next+size:end]) != lineEnd {
			return nil, 0, api.EFORM
		}
		body = append(body, b[next:next+size]...)
		at = end
		if size == 0 {
			return body, at, api.OK
		}
	}
}

// sizeLine tells a chunk's size, and where its bytes begin.
func sizeLine(b []byte, at int) (int, int, api.Errno) {
	n := bytes.Index(b[at:], []byte(lineEnd))
	if n < 0 {
		if len(b)-at > mostSizeDigits+len(lineEnd) {
			return 0, 0, api.EFORM
		}
		return 0, 0, api.EORDER
	}
	size, ok := hexNumber(b[at : at+n])
	if !ok {
		return 0, 0, api.EFORM
	}
	return size, at + n + len(lineEnd), api.OK
}

func hexNumber(b []byte) (int, bool) {
	if len(b) < 1 || len(b) > mostSizeDigits {
		return 0, false
	}
	n := 0
	for _, c := range b {
		switch c = lowered(c); {
		case isDigit(c):
			n = n*16 + int(c-'0')
		case c >= 'a' && c <= 'f':
			n = n*16 + int(c-'a') + 10
		default:
			return 0, false
		}
	}
	return n, true
}
