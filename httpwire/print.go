package httpwire

import (
	"strconv"

	"rolodex/api"
)

// PrintRequest lays one into bytes.
func PrintRequest(r Request) ([]byte, api.Errno) {
	if !goodMethod(r.Method) || !goodPath(r.Path) {
		return nil, api.EARG
	}
	return lay(r.Method+" "+r.Path+" "+version, r.Headers, r.Body)
}

// PrintResponse lays one into bytes.
func PrintResponse(r Response) ([]byte, api.Errno) {
	if !goodCode(r.Code) {
		return nil, api.EARG
	}
	words := "No"
	if r.Code >= 200 && r.Code <= 299 {
		words = "OK"
	}
	return lay(version+" "+strconv.Itoa(r.Code)+" "+words, r.Headers, r.Body)
}

// Chunked lays one into bytes, its body in chunks.
func Chunked(r Request, sizes []int) ([]byte, api.Errno) {
	if !goodMethod(r.Method) || !goodPath(r.Path) {
		return nil, api.EARG
	}
	head, e := printHead(r.Method+" "+r.Path+" "+version, r.Headers, Header{bodyCoding, chunked}, len(r.Body))
	if e != api.OK {
		return nil, e
	}
	rest := r.Body
	for _, n := range sizes {
		if n < 1 || len(rest) == 0 {
			continue
		}
		n = min(n, len(rest))
		head = appendChunk(head, rest[:n])
		rest = rest[n:]
	}
	if len(rest) > 0 {
		head = appendChunk(head, rest)
	}
	return appendChunk(head, nil), api.OK
}

func appendChunk(b, chunk []byte) []byte {
	b = strconv.AppendInt(b, int64(len(chunk)), 16)
	b = append(b, lineEnd...)
	b = append(b, chunk...)
	return append(b, lineEnd...)
}

func lay(firstLine string, headers []Header, body []byte) ([]byte, api.Errno) {
	head, e := printHead(firstLine, headers, Header{bodyLength, strconv.Itoa(len(body))}, len(body))
	if e != api.OK {
		return nil, e
	}
	return append(head, body...), api.OK
}

// printHead lays a head whose last header tells how the body comes.
func printHead(firstLine string, headers []Header, last Header, body int) ([]byte, api.Errno) {
	b := []byte(firstLine + lineEnd)
	for _, h := range headers {
		if !goodName(h.Name) || !goodValue(h.Value) || sameName(h.Name, bodyLength) || sameName(h.Name, bodyCoding) {
			return nil, api.EARG
		}
		b = appendHeader(b, h)
	}
	b = appendHeader(b, last)
	b = append(b, lineEnd...)
	if len(headers) >= mostHeaders || len(b) > api.MaxHead || body > api.MaxBody {
		return nil, api.ELIMIT
	}
	return b, api.OK
}

func appendHeader(b []byte, h Header) []byte {
	b = append(b, h.Name...)
	b = append(b, ": "...)
	b = append(b, h.Value...)
	return append(b, lineEnd...)
}
