package table

import (
	"rolodex/api"
	"rolodex/bin"
	"rolodex/crc"
)

// A table's bytes: four bytes: how many bytes there are in all (without it, bytes that are cut could by chance end with a right sum); how many items, how many a block; for each block its first key and how many bytes it has; the filter; the blocks; four bytes: the sum of all ahead of them (the lowest byte first, as the sum shifts: so any change within four bytes is told, across its border too).

const edgeBytes = 4

func blocksOf(items, block int) int { return (items + block - 1) / block }

func laid(l []api.Item, block int) []byte {
	var index, data []byte
	for i := 0; i < len(l); i += block {
		b := laidBlock(l[i:min(i+block, len(l))])
		index = append(index, bin.Text(nil, l[i].Key)...)
		index = append(index, bin.Uint(nil, uint64(len(b)))...)
		data = append(data, b...)
	}
	b := bin.Uint(nil, uint64(len(l)))
	b = append(b, bin.Uint(nil, uint64(block))...)
	b = append(b, index...)
	b = append(b, bin.Text(nil, string(filterOf(l)))...)
	return sealed(append(b, data...))
}

// laidBlock lays items with their keys told by what they share with the one ahead.
func laidBlock(l []api.Item) []byte {
	var b []byte
	last := ""
	for _, x := range l {
		n := shared(last, x.Key)
		b = append(b, bin.Uint(nil, uint64(n))...)
		b = append(b, bin.Text(nil, x.Key[n:])...)
		b = append(b, bin.Uint(nil, x.Seq)...)
		if x.Gone {
			b = append(b, 1)
		} else {
			b = append(b, 0)
		}
		b = append(b, bin.Text(nil, x.Value)...)
		last = x.Key
	}
	return b
}

func shared(a, b string) int {
	n := 0
	for n < len(a) && n < len(b) && a[n] == b[n] {
		n++
	}
	return n
}

func four(v uint32) []byte {
	return []byte{byte(v), byte(v >> 8), byte(v >> 16), byte(v >> 24)}
}

func sealed(inner []byte) []byte {
	b := four(uint32(len(inner) + 2*edgeBytes))
	b = append(b, inner...)
	return append(b, four(crc.Sum(b))...)
}

func unsealed(b []byte) ([]byte, bool) {
	if len(b) < 2*edgeBytes || string(b[:edgeBytes]) != string(four(uint32(len(b)))) {
		return nil, false
	}
	end := len(b) - edgeBytes
	if string(b[end:]) != string(four(crc.Sum(b[:end]))) {
		return nil, false
	}
	return b[edgeBytes:end], true
}

// read reads what laid lays, as far as it takes to lay it again: whether that is the same is asked behind it.
func read(inner []byte) ([]api.Item, int, bool) {
	r := bin.Read(inner)
	n := r.Int(mostItems)
	block := r.Int(mostBlock)
	if r.Err() != api.OK || block == 0 {
		return nil, 0, false
	}
	for range blocksOf(n, block) {
		r.Text(api.MaxKey)
		r.Uint()
	}
	r.Text(r.Left())
	l := make([]api.Item, 0, n)
	last := ""
	for i := range n {
		if i%block == 0 {
			last = ""
		}
		x, ok := readItem(r, last)
		if !ok {
			return nil, 0, false
		}
		l = append(l, x)
		last = x.Key
	}
	return l, block, r.End() == api.OK
}

func readItem(r *bin.Reader, last string) (api.Item, bool) {
	n := r.Int(len(last))
	key := last[:n] + r.Text(api.MaxKey)
	x := api.Item{Key: key, Seq: r.Uint()}
	x.Gone = r.Byte() == 1
	x.Value = r.Text(api.MaxValue)
	return x, r.Err() == api.OK
}
