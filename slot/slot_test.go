package slot_test

import (
	"bytes"
	"crypto/sha256"
	"encoding/binary"
	"math"
	"math/rand"
	"testing"

	"postmark/api"
	"postmark/disk"
	"postmark/slot"
)

func data(x byte) []byte { return bytes.Repeat([]byte{x}, api.MaxContent) }

func same(a, b api.Record) bool { return a.N == b.N && bytes.Equal(a.Data, b.Data) }

// model is a record's sector.
func model(r api.Record) []byte {
	b := []byte{0x50, 0x4d, 1, 0}
	b = binary.BigEndian.AppendUint64(b, r.N)
	b = append(b, r.Data...)
	hash := sha256.Sum256(b)
	b = append(b, hash[:16]...)
	b = binary.BigEndian.AppendUint64(b, r.N)
	return append(b, 0, 0, 0, 0)
}

// fresh is a disk of two sectors that have these bytes.
func fresh(t *testing.T, sectors ...[]byte) *disk.Disk {
	d, e := disk.New(2, 1000)
	if e != api.OK {
		t.Fatal(e)
	}
	for at, b := range sectors {
		d.Write(at, b)
	}
	d.Flush()
	return d
}

func TestEncodeAndDecode(t *testing.T) {
	for _, r := range []api.Record{{N: 1, Data: data(7)}, {N: math.MaxUint64, Data: data(0)}, {N: 1 << 40, Data: []byte("just twenty-four bytes ..")[:24]}} {
		b, e := slot.Encode(r)
		if e != api.OK || !bytes.Equal(b, model(r)) || len(b) != api.Sector {
			t.Error(r, b, e)
		}
		if back, e := slot.Decode(b); e != api.OK || !same(back, r) {
			t.Error(r, back, e)
		}
		for at := range b {
			turned := bytes.Clone(b)
			turned[at] ^= 1 << (at % 8)
			if back, e := slot.Decode(turned); e != api.ErrSlot || !same(back, api.Record{}) {
				t.Error(at, back, e)
			}
		}
		for _, wrong := range [][]byte{b[:63], b[1:], append(bytes.Clone(b), 0), nil} {
			if back, e := slot.Decode(wrong); e != api.ErrSlot || !same(back, api.Record{}) {
				t.Error(len(wrong), back, e)
			}
		}
	}
	for _, r := range []api.Record{{}, {N: 0, Data: data(1)}, {N: 1}, {N: 1, Data: data(1)[1:]}, {N: 1, Data: append(data(1), 1)}} {
		if b, e := slot.Encode(r); b != nil || e != api.ErrSlot {
			t.Error(r, b, e)
		}
	}
	if r, e := slot.Decode(make([]byte, 64)); e != api.ErrSlot || !same(r, api.Record{}) {
		t.Error(r, e)
	}
	if r, e := slot.Decode(model(api.Record{N: 0, Data: data(1)})); e != api.ErrSlot || !same(r, api.Record{}) {
		t.Error("number 0", r, e)
	}
}

func TestLoad(t *testing.T) {
	five, six, other := api.Record{N: 5, Data: data(5)}, api.Record{N: 6, Data: data(6)}, api.Record{N: 5, Data: data(9)}
	torn := model(six)
	torn[59] ^= 1
	top := api.Record{N: math.MaxUint64, Data: data(3)}
	for i, x := range []struct {
		sectors [][]byte
		want    api.Record
		next    int
	}{
		{nil, api.Record{}, 0}, {[][]byte{model(five)}, five, 1}, {[][]byte{make([]byte, 64), model(five)}, five, 0}, {[][]byte{model(five), model(six)}, six, 0}, {[][]byte{model(six), model(five)}, six, 1}, {[][]byte{model(five), model(other)}, five, 1}, {[][]byte{model(other), model(five)}, other, 1}, {[][]byte{model(five), torn}, five, 1}, {[][]byte{torn, model(five)}, five, 0}, {[][]byte{torn, torn}, api.Record{}, 0}, {[][]byte{model(top), model(five)}, top, 1},
	} {
		d := fresh(t, x.sectors...)
		if r, next, e := slot.Load(d); !same(r, x.want) || next != x.next || e != api.OK {
			t.Error(i, r, next, e)
		}
		r, e := slot.Save(d, data(8))
		if x.want.N == math.MaxUint64 {
			if e != api.ErrSlot || !same(r, api.Record{}) || d.Room() != 1000-len(x.sectors) {
				t.Error(i, r, e)
			}
			continue
		}
		if want := (api.Record{N: x.want.N + 1, Data: data(8)}); e != api.OK || !same(r, want) || d.Waits() != 0 {
			t.Error(i, r, e)
		} else if b, _ := d.Read(x.next); !bytes.Equal(b, model(want)) {
			t.Error(i, b)
		}
	}
}

func TestSaveTurns(t *testing.T) {
	d := fresh(t)
	for n := range 6 {
		r, e := slot.Save(d, data(byte(n)))
		want := api.Record{N: uint64(n + 1), Data: data(byte(n))}
		if e != api.OK || !same(r, want) {
			t.Error(n, r, e)
		}
		if back, next, e := slot.Load(d); !same(back, want) || next != (n+1)%2 || e != api.OK {
			t.Error(n, back, next, e)
		}
	}
}

func TestWrong(t *testing.T) {
	small, _ := disk.New(1, 9)
	down := fresh(t)
	down.Crash(nil)
	full, _ := disk.New(2, 0)
	for i, x := range []struct {
		d          *disk.Disk
		load, save api.Errno
	}{{nil, api.ErrNil, api.ErrNil}, {&disk.Disk{}, api.ErrNil, api.ErrNil}, {small, api.ErrDisk, api.ErrDisk}, {down, api.ErrDown, api.ErrDown}, {full, api.OK, api.ErrFull}} {
		if r, next, e := slot.Load(x.d); !same(r, api.Record{}) || next != 0 || e != x.load {
			t.Error(i, r, next, e)
		}
		if r, e := slot.Save(x.d, data(1)); !same(r, api.Record{}) || e != x.save {
			t.Error(i, r, e)
		}
		if r, e := slot.Save(x.d, nil); !same(r, api.Record{}) || x.load != api.OK && e != x.load || x.load == api.OK && e != api.ErrSlot {
			t.Error(i, r, e)
		}
	}
	for _, b := range [][]byte{nil, data(1)[1:], append(data(1), 0)} {
		d := fresh(t)
		if r, e := slot.Save(d, b); !same(r, api.Record{}) || e != api.ErrSlot || d.Room() != 1000 {
			t.Error(len(b), r, e)
		}
	}
	for steps := 1; steps <= 3; steps++ {
		d := fresh(t)
		d.Arm(steps, []byte{64})
		want := api.ErrDown
		if steps == 3 {
			want = api.OK
		}
		if _, e := slot.Save(d, data(1)); e != want {
			t.Error(steps, e)
		}
	}
}

// TestCrashes crashes within each save, in each of its steps, by each count of bytes: the elder record is there, or the newer one, whole.
func TestCrashes(t *testing.T) {
	r := rand.New(rand.NewSource(1))
	for kept := range 80 {
		for steps := 1; steps <= 2; steps++ {
			d := fresh(t)
			for range r.Intn(5) {
				slot.Save(d, data(byte(r.Intn(256))))
			}
			elder, next, _ := slot.Load(d)
			before, _ := d.Read(next)
			saved := make([]byte, api.MaxContent)
			r.Read(saved)
			newer := api.Record{N: elder.N + 1, Data: saved}
			d.Arm(steps, []byte{byte(kept)})
			if got, e := slot.Save(d, saved); e != api.ErrDown || !same(got, api.Record{}) {
				t.Fatal(got, e)
			}
			if _, _, e := slot.Load(d); e != api.ErrDown {
				t.Fatal(e)
			}
			d.Boot()
			torn := append(bytes.Clone(model(newer)[:min(kept, 64)]), before[min(kept, 64):]...)
			want := elder
			if bytes.Equal(torn, model(newer)) {
				want = newer
			}
			if (kept >= 60) != same(want, newer) {
				t.Fatal(kept, want)
			}
			if got, _, e := slot.Load(d); e != api.OK || !same(got, want) {
				t.Fatal(kept, steps, got, want, e)
			}
			if got, e := slot.Save(d, saved); e != api.OK || got.N != want.N+1 {
				t.Fatal(got, e)
			}
		}
	}
}

func TestMemory(t *testing.T) {
	d := fresh(t)
	given := data(4)
	saved, _ := slot.Save(d, given)
	if !bytes.Equal(given, data(4)) {
		t.Error(given)
	}
	clear(given)
	if !bytes.Equal(saved.Data, data(4)) {
		t.Error("what was handed in is kept", saved)
	}
	clear(saved.Data)
	loaded, _, _ := slot.Load(d)
	if !bytes.Equal(loaded.Data, data(4)) {
		t.Error(loaded)
	}
	b := model(api.Record{N: 3, Data: data(2)})
	r, _ := slot.Decode(b)
	clear(b)
	if !bytes.Equal(r.Data, data(2)) {
		t.Error(r)
	}
}
