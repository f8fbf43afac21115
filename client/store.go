package client

import (
	"maps"
	"slices"

	"rolodex/api"
	"rolodex/bin"
	"rolodex/crdt"
	"rolodex/frame"
	"rolodex/sha"
	"rolodex/simdisk"
	"rolodex/wal"
)

const (
	logPrefix     = "log-"
	logSegment    = 1 << 16
	snapshotFile  = "device"
	temporaryFile = "device.tmp"
	leastLog      = 8192
)

// store keeps a device on a disk: a snapshot of it, and a log of the records since then. Each record has a number, so that those that the snapshot has already are known.
type store struct {
	disk   *simdisk.Disk
	log    *wal.Log
	number uint64
	logged int
	most   int
}

// openStore reads a disk into a new device.
func openStore(disk *simdisk.Disk, d *device) (*store, api.Errno) {
	s := &store{disk: disk, most: leastLog}
	if e := s.loadSnapshot(d); e != api.OK {
		return nil, e
	}
	log, records, e := wal.Open(disk, logPrefix, logSegment)
	if e != api.OK {
		return nil, e
	}
	s.log = log
	for _, b := range records {
		if !s.replay(d, b) {
			return nil, api.ECORRUPT
		}
	}
	return s, api.OK
}

func (s *store) replay(d *device, b []byte) bool {
	r := bin.Read(b)
	number, kind := r.Uint(), r.Int(fetched)
	if r.Err() != api.OK || number > s.number+1 {
		return false
	}
	s.logged += len(b)
	if number <= s.number {
		return true
	}
	s.number = number
	return d.do(kind, b[len(b)-r.Left():])
}

// write puts a record into the log, and does it once it is safe.
func (s *store) write(d *device, kind int, b []byte) api.Errno {
	record := append(bin.Uint(bin.Uint(nil, s.number+1), uint64(kind)), b...)
	if e := s.log.Append(record); e != api.OK {
		return e
	}
	if e := s.log.Sync(); e != api.OK {
		return e
	}
	s.number++
	d.do(kind, b)
	s.logged += len(record)
	if s.logged > s.most {
		s.shorten(d)
	}
	return api.OK
}

// shorten writes a snapshot, and cuts the log. If there is no room for it, the log is as good; it is tried again once it has grown by as much.
func (s *store) shorten(d *device) {
	s.logged = 0
	if s.log.Rotate() != api.OK {
		return
	}
	b := laidDevice(d, s.number)
	s.most = max(leastLog, 2*len(b))
	if s.saveSnapshot(b) == api.OK {
		s.log.Cut(s.log.Last())
	}
}

// saveSnapshot writes a new file, and gives it its name once it is safe.
func (s *store) saveSnapshot(b []byte) api.Errno {
	var framed []byte
	for part := range slices.Chunk(b, api.MaxFrame) {
		f, _ := frame.Append(nil, part)
		framed = append(framed, f...)
	}
	s.disk.Remove(temporaryFile)
	if e := s.disk.Create(temporaryFile); e != api.OK {
		return e
	}
	if e := s.disk.Append(temporaryFile, framed); e != api.OK {
		s.disk.Remove(temporaryFile)
		return e
	}
	if e := s.disk.Sync(temporaryFile); e != api.OK {
		return e
	}
	if e := s.disk.Rename(temporaryFile, snapshotFile); e != api.OK {
		return e
	}
	return s.disk.SyncDir()
}

func (s *store) loadSnapshot(d *device) api.Errno {
	b, e := s.disk.Read(snapshotFile)
	if e == api.ENONE {
		return api.OK
	}
	if e != api.OK {
		return e
	}
	parts, _, state := frame.Scan(b)
	number, ok := readDevice(slices.Concat(parts...), d)
	if state != frame.Clean || !ok {
		return api.ECORRUPT
	}
	s.number = number
	return api.OK
}

func laidDevice(d *device, number uint64) []byte {
	var b []byte
	for _, v := range []uint64{number, d.opens, d.counter, d.epoch, d.cursor} {
		b = append(b, bin.Uint(nil, v)...)
	}
	b = append(b, bin.Text(nil, string(d.state.Encode()))...)
	b = append(b, bin.Uint(nil, uint64(len(d.outbox)))...)
	for _, x := range d.outbox {
		event, _ := crdt.EncodeEvent(x)
		b = append(b, bin.Text(nil, string(event))...)
	}
	names := d.blobs.Names()
	b = append(b, bin.Uint(nil, uint64(len(names)))...)
	for _, name := range names {
		blob, _ := d.blobs.Get(name)
		b = append(b, bin.Text(nil, string(blob))...)
	}
	b = append(b, bin.Uint(nil, uint64(len(d.uploads)))...)
	for _, name := range slices.Sorted(maps.Keys(d.uploads)) {
		b = append(b, bin.Text(nil, name)...)
	}
	return b
}

func readDevice(b []byte, d *device) (number uint64, ok bool) {
	r := bin.Read(b)
	number = r.Uint()
	d.opens, d.counter, d.epoch, d.cursor = r.Uint(), r.Uint(), r.Uint(), r.Uint()
	state, e := crdt.Decode([]byte(r.Text(r.Left())))
	if e != api.OK {
		return 0, false
	}
	d.state = state
	for range r.Int(r.Left()) {
		x, e := crdt.DecodeEvent([]byte(r.Text(r.Left())))
		if e != api.OK {
			return 0, false
		}
		d.outbox = append(d.outbox, x)
	}
	for range r.Int(r.Left()) {
		d.blobs.Put([]byte(r.Text(r.Left())))
	}
	for range r.Int(r.Left()) {
		d.uploads[r.Text(len(sha.Hex([32]byte{})))] = struct{}{}
	}
	return number, r.End() == api.OK
}
