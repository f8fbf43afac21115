package client

import (
	"strconv"
	"sync"

	"rolodex/api"
	"rolodex/crdt"
	"rolodex/httpwire"
	"rolodex/proto"
	"rolodex/sha"
)

const (
	idHeader    = "X-Id"
	tokenHeader = "Authorization"
	tokenWord   = "Bearer "
	blobPath    = "/blob/"
	mostNames   = 100
	mostSent    = 1 << 20
)

// The codes of responses that a device tells apart.
const (
	good     = 200
	noToken  = 401
	notFound = 404
	conflict = 409
)

// job is a request, and what its answer is to be held against.
type job struct {
	method, path string
	body         []byte
	take         func(c *Client, j *job, body []byte) bool
	names        []string
	counter      uint64
	id           string
	at           int64
}

// photoList is the names of the photos of a state, in order, found once for each state.
type photoList struct {
	once  sync.Once
	names []string
}

func (p *photoList) of(s *crdt.State) []string {
	p.once.Do(func() {
		for _, x := range s.Entries() {
			if _, e := sha.Read(x.Value); x.Field == photoField && e == api.OK {
				p.names = append(p.names, x.Value)
			}
		}
	})
	return p.names
}

// lacking tells the first blob that a photo of the state lacks, and that the server may have.
func (c *Client) lacking() (string, bool) {
	for _, photo := range c.photos.of(c.device.state) {
		for _, name := range c.device.blobs.Missing(photo) {
			if _, ok := c.notFound[name]; !ok {
				return name, true
			}
		}
	}
	return "", false
}

// Next tells the next request.
func (c *Client) Next(now int64, r uint64) ([]byte, bool) {
	if c.out != nil {
		if !c.isLate(now) {
			return nil, false
		}
		c.out = nil
		c.timer.Fail(now, r)
	}
	if c.token == "" || !c.timer.Ready(now) {
		return nil, false
	}
	j, ok := c.nextJob()
	if !ok {
		return nil, false
	}
	j.id = strconv.FormatUint(mostSent*c.device.opens+c.sent.Load()+1, 10)
	j.at = now
	b, e := httpwire.PrintRequest(httpwire.Request{
		Method:  j.method,
		Path:    j.path,
		Headers: []httpwire.Header{{Name: idHeader, Value: j.id}, {Name: tokenHeader, Value: tokenWord + c.token}},
		Body:    j.body,
	})
	if e != api.OK {
		return nil, false
	}
	c.sent.Add(1)
	c.out = j
	return b, true
}

// isLate asks whether the answer of the request that is out is not waited for any more.
func (c *Client) isLate(now int64) bool {
	return now >= c.out.at && uint64(now)-uint64(c.out.at) >= uint64(c.options.Timeout)
}

// nextJob finds the first thing that there is to do.
func (c *Client) nextJob() (*job, bool) {
	d := c.device
	if c.mustResync {
		b, e := proto.EncodeResync(proto.Resync{Epoch: d.epoch, Upto: d.counter})
		return &job{method: "POST", path: "/resync", body: b, take: takeResync, counter: d.counter}, e == api.OK
	}
	if len(d.outbox) > 0 {
		b, e := proto.EncodePush(proto.Push{Epoch: d.epoch, Events: d.outbox[:min(len(d.outbox), api.PageEvents)]})
		return &job{method: "POST", path: "/push", body: b, take: takePush}, e == api.OK
	}
	if j, ok := c.nextUpload(); ok {
		return j, true
	}
	if c.mustPull {
		b, e := proto.EncodePull(proto.Pull{Epoch: d.epoch, Cursor: d.cursor, Most: api.PageEvents})
		return &job{method: "POST", path: "/pull", body: b, take: takePull}, e == api.OK
	}
	name, ok := c.lacking()
	return &job{method: "GET", path: blobPath + name, take: takeBlob, names: []string{name}}, ok
}

// nextUpload asks for the uploads that the server was not asked for; if there are none, it tells the first one that the server wants.
func (c *Client) nextUpload() (*job, bool) {
	var unasked, wanted []string
	for _, name := range c.Uploads() {
		if _, ok := c.wanted[name]; ok {
			wanted = append(wanted, name)
		} else {
			unasked = append(unasked, name)
		}
	}
	if len(unasked) > 0 {
		names := unasked[:min(len(unasked), mostNames)]
		b, e := proto.EncodeHave(proto.Have{Names: names})
		return &job{method: "POST", path: "/have", body: b, take: takeHave, names: names}, e == api.OK
	}
	if len(wanted) == 0 {
		return nil, false
	}
	b, ok := c.device.blobs.Get(wanted[0])
	return &job{method: "PUT", path: "/blob", body: b, take: takePut, names: wanted[:1]}, ok
}

// Handle takes a response.
func (c *Client) Handle(resp []byte, now int64, r uint64) bool {
	answer, n, e := httpwire.ReadResponse(resp)
	if e != api.OK || n != len(resp) || c.out == nil {
		return false
	}
	if id, ok := answer.Get(idHeader); !ok || id != c.out.id {
		return false
	}
	j := c.out
	c.out = nil
	switch {
	case answer.Code == good && j.take(c, j, answer.Body):
		c.timer.Well(now)
	case answer.Code == conflict:
		c.mustResync = true
	case answer.Code == notFound && j.method == "GET":
		c.notFound[j.names[0]] = struct{}{}
	default:
		c.timer.Fail(now, r)
	}
	if answer.Code == noToken {
		c.token = ""
	}
	return true
}

// The takers do what a good answer says; they tell false, if it is none, or if it can't be written.

func takePush(c *Client, j *job, body []byte) bool {
	m, e := proto.DecodePushAck(body)
	if e != api.OK {
		return false
	}
	if l := c.device.outbox; len(l) == 0 || l[0].Dot.N > m.Upto {
		return true
	}
	return c.write(acked, body) == api.OK
}

func takePull(c *Client, j *job, body []byte) bool {
	m, e := proto.DecodePullAck(body)
	if e != api.OK || !c.device.canTake(m.Events) {
		return false
	}
	isNew := len(m.Events) > 0 || m.Next != c.device.cursor
	if isNew && c.write(pulled, body) != api.OK {
		return false
	}
	c.mustPull = m.More
	return true
}

func takeHave(c *Client, j *job, body []byte) bool {
	m, e := proto.DecodeHaveAck(body)
	if e != api.OK {
		return false
	}
	wants := map[string]struct{}{}
	for _, name := range m.Want {
		wants[name] = struct{}{}
	}
	var wanted, others []string
	for _, name := range j.names {
		if _, ok := wants[name]; ok {
			wanted = append(wanted, name)
		} else {
			others = append(others, name)
		}
	}
	if !c.settle(others) {
		return false
	}
	for _, name := range wanted {
		c.wanted[name] = struct{}{}
	}
	return true
}

// settle makes uploads none.
func (c *Client) settle(names []string) bool {
	if len(names) == 0 {
		return true
	}
	b, e := proto.EncodeHave(proto.Have{Names: names})
	if e != api.OK || c.write(settled, b) != api.OK {
		return false
	}
	for _, name := range names {
		delete(c.wanted, name)
	}
	return true
}

func takePut(c *Client, j *job, body []byte) bool {
	return string(body) == j.names[0] && c.settle(j.names)
}

func takeBlob(c *Client, j *job, body []byte) bool {
	return sha.Hex(sha.Sum(body)) == j.names[0] && c.write(fetched, body) == api.OK
}

func takeResync(c *Client, j *job, body []byte) bool {
	m, e := proto.DecodeResyncAck(body)
	if e != api.OK {
		return false
	}
	if _, e := crdt.Decode(m.State); e != api.OK {
		return false
	}
	if c.device.counter != j.counter {
		return true
	}
	if c.write(resynced, body) != api.OK {
		return false
	}
	c.mustResync = false
	c.Poll()
	return true
}
