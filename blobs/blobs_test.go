package blobs

import (
	"bytes"
	"math/rand"
	"slices"
	"strings"
	"testing"

	"rolodex/api"
	"rolodex/bin"
	"rolodex/sha"
)

func photo(n int) []byte {
	b := make([]byte, n)
	rand.New(rand.NewSource(int64(n))).Read(b)
	return b
}

func put(s *Store, n int) string {
	name, manifest, chunks, _ := Cut(photo(n))
	for _, c := range chunks {
		s.Put(c)
	}
	s.Put(manifest)
	return name
}

func TestP16_1Cut(t *testing.T) {
	for _, n := range []int{0, 1, 63, 64, 65, 128, 1000, api.MaxPhoto} {
		p := photo(n)
		name, manifest, chunks, e := Cut(p)
		want := bin.Uint(nil, uint64(n))
		for i, c := range chunks {
			d := sha.Sum(c)
			want = append(want, d[:]...)
			if len(c) != min(64, n-64*i) {
				t.Errorf("%d: chunk %d has %d bytes", n, i, len(c))
			}
		}
		if e != api.OK || name != sha.Hex(sha.Sum(want)) || !bytes.Equal(manifest, want) || !bytes.Equal(slices.Concat(chunks...), p) {
			t.Errorf("Cut of %d", n)
		}
		size, names, e := Names(manifest)
		if e != api.OK || size != n || len(names) != len(chunks) {
			t.Errorf("Names of %d", n)
		}
		for i, c := range chunks {
			if names[i] != sha.Hex(sha.Sum(c)) {
				t.Errorf("%d: name %d", n, i)
			}
		}
		if len(chunks) > 0 {
			chunks[0][0]++
			_ = append(chunks[0], 7)
			if !bytes.Equal(p, photo(n)) {
				t.Error("chunks share the photo")
			}
		}
	}
	if _, m, c, _ := Cut(photo(65)); len(m) != 65 || len(c) != 2 || len(c[0]) != 64 || len(c[1]) != 1 {
		t.Error("the example")
	}
	if name, m, c, e := Cut(photo(4097)); name != "" || m != nil || c != nil || e != api.ELIMIT {
		t.Error("one byte too many")
	}
}

func TestP16_1NoManifests(t *testing.T) {
	digest := make([]byte, 32)
	for i, m := range [][]byte{nil, {128}, {1}, append([]byte{0}, digest...), append([]byte{1}, digest[:31]...), append([]byte{1}, make([]byte, 33)...), append([]byte{65}, digest...), append([]byte{64}, make([]byte, 64)...), append([]byte{129, 32}, make([]byte, 65*32)...), append([]byte{129, 0}, digest...)} {
		if n, names, e := Names(m); n != 0 || names != nil || e != api.EFORM {
			t.Errorf("%d is a manifest", i)
		}
	}
}

func TestP16_2PutAndGet(t *testing.T) {
	s := New()
	b := []byte("abc")
	name := s.Put(b)
	clear(b)
	got, ok := s.Get(name)
	if name != sha.Hex(sha.Sum([]byte("abc"))) || string(got) != "abc" || !ok {
		t.Error("Put, Get")
	}
	clear(got)
	if got, _ := s.Get(name); string(got) != "abc" || s.Put([]byte("abc")) != name || s.Bytes() != 3 {
		t.Error("a blob that is put again")
	}
	if got, ok := s.Get("x"); got != nil || ok {
		t.Error("what is not there")
	}
	empty := s.Put(nil)
	if got, ok := s.Get(empty); len(got) != 0 || !ok || s.Bytes() != 3 {
		t.Error("an empty blob")
	}
	want := []string{name, empty}
	slices.Sort(want)
	if !slices.Equal(s.Names(), want) || len(New().Names()) != 0 {
		t.Error("Names")
	}
}

func TestP16_2Photo(t *testing.T) {
	s := New()
	name, manifest, chunks, _ := Cut(photo(130))
	if p, e := s.Photo(name); p != nil || e != api.ENONE || !slices.Equal(s.Missing(name), []string{name}) {
		t.Error("no manifest")
	}
	s.Put(manifest)
	_, names, _ := Names(manifest)
	if p, e := s.Photo(name); p != nil || e != api.ENONE || !slices.Equal(s.Missing(name), names) {
		t.Error("no chunk")
	}
	s.Put(chunks[1])
	if _, e := s.Photo(name); e != api.ENONE || !slices.Equal(s.Missing(name), []string{names[0], names[2]}) {
		t.Error("a chunk that is missing")
	}
	s.Put(chunks[0])
	s.Put(chunks[2])
	if p, e := s.Photo(name); !bytes.Equal(p, photo(130)) || e != api.OK || len(s.Missing(name)) != 0 {
		t.Error("the photo")
	}
	other := s.Put([]byte("no manifest"))
	if p, e := s.Photo(other); p != nil || e != api.EFORM || len(s.Missing(other)) != 0 {
		t.Error("what is no manifest")
	}
	if !slices.Equal(s.Missing("x"), []string{"x"}) || !slices.Equal(s.Missing(""), []string{""}) {
		t.Error("what is no name")
	}
	if p, e := s.Photo(put(s, 0)); len(p) != 0 || e != api.OK {
		t.Error("an empty photo")
	}
}

func TestP16_2WrongChunks(t *testing.T) {
	s := New()
	short, long := sha.Sum(photo(3)), sha.Sum(photo(65))
	s.Put(photo(3))
	s.Put(photo(65))
	none := make([]byte, 32)
	for i, c := range []struct {
		manifest []byte
		want     api.Errno
	}{
		{slices.Concat([]byte{2}, short[:]), api.EFORM}, {slices.Concat([]byte{4}, short[:]), api.EFORM}, {slices.Concat([]byte{64}, long[:]), api.EFORM},
		{slices.Concat([]byte{67}, short[:], short[:]), api.EFORM}, {slices.Concat([]byte{67}, short[:], none), api.ENONE}, {slices.Concat([]byte{3}, short[:]), api.OK},
	} {
		if _, e := s.Photo(s.Put(c.manifest)); e != c.want {
			t.Errorf("%d: %v", i, e)
		}
	}
	twice := s.Put(slices.Concat([]byte{128, 1}, none, none))
	if got := s.Missing(twice); len(got) != 1 {
		t.Errorf("each once: %v", got)
	}
}

func TestP16_2Want(t *testing.T) {
	s := New()
	have := s.Put([]byte("x"))
	a, b := strings.Repeat("a", 64), strings.Repeat("0", 64)
	got := s.Want([]string{a, "", have, b, a, a[1:], a + "a", strings.ToUpper(a), b, strings.Repeat("g", 64)})
	if !slices.Equal(got, []string{a, b}) {
		t.Errorf("%q", got)
	}
	if len(s.Want(nil)) != 0 {
		t.Error("of nothing")
	}
}

func TestP16_3Keep(t *testing.T) {
	s := New()
	a, b := put(s, 200), put(s, 70)
	name, manifest, chunks, _ := Cut(append(photo(200)[:64], 9))
	s.Put(manifest)
	s.Put(chunks[1])
	loose := s.Put([]byte("loose"))
	if len(s.Names()) != 5+3+2+1 {
		t.Fatalf("%d blobs", len(s.Names()))
	}
	if n := s.Keep([]string{"x", loose, b, name, b}); n != 1+3+1+1-1 {
		t.Errorf("%d taken", n)
	}
	if p, e := s.Photo(b); e != api.OK || !bytes.Equal(p, photo(70)) {
		t.Error("a photo that is kept")
	}
	if p, e := s.Photo(name); e != api.OK || len(p) != 65 {
		t.Error("a chunk that another photo needs")
	}
	if _, e := s.Photo(a); e != api.ENONE || s.Bytes() != 64+65+64+6+65+1 {
		t.Errorf("Bytes: %d", s.Bytes())
	}
	if n := s.Keep(nil); n != 6 || s.Bytes() != 0 || len(s.Names()) != 0 {
		t.Errorf("%d taken", n)
	}
}

func TestP16_4AnyOrder(t *testing.T) {
	r := rand.New(rand.NewSource(6))
	for range 50 {
		s := New()
		p := photo(r.Intn(4097))
		name, manifest, chunks, _ := Cut(p)
		all := append(chunks, manifest)
		for i, k := range r.Perm(len(all)) {
			if _, e := s.Photo(name); e != api.ENONE {
				t.Fatalf("%d of %d: %v", i, len(all), e)
			}
			s.Put(all[k])
		}
		if got, e := s.Photo(name); e != api.OK || !bytes.Equal(got, p) {
			t.Fatal("the photo")
		}
	}
}
