package disk_test

import (
	"bytes"
	"math"
	"math/rand"
	"testing"

	"postmark/api"
	"postmark/disk"
)

func sector(x byte) []byte { return bytes.Repeat([]byte{x}, api.Sector) }

// model is a disk, told anew after the chapter: sectors as slices, writes as a list.
type model struct {
	stays  [][]byte
	at     []int
	data   [][]byte
	room   int
	up     bool
	steps  int
	choice []byte
}

func (m *model) fall(choice []byte) {
	for i, at := range m.at {
		for j := range 64 {
			if i < len(choice) && j < int(choice[i]) {
				m.stays[at][j] = m.data[i][j]
			}
		}
	}
	m.at, m.data, m.up, m.steps = nil, nil, false, 0
}

func (m *model) step() bool {
	m.steps--
	if m.steps != 0 {
		return false
	}
	m.fall(m.choice)
	return true
}

func (m *model) write(at int, b []byte) api.Errno {
	if !m.up {
		return api.ErrDown
	}
	if at < 0 || at >= len(m.stays) || len(b) != 64 {
		return api.ErrDisk
	}
	e := api.ErrFull
	if m.room > 0 {
		m.room--
		m.at, m.data = append(m.at, at), append(m.data, bytes.Clone(b))
		e = api.OK
	}
	if m.step() {
		return api.ErrDown
	}
	return e
}

func (m *model) flush() api.Errno {
	if !m.up || m.step() {
		return api.ErrDown
	}
	steps, choice := m.steps, m.choice
	m.fall(bytes.Repeat([]byte{64}, len(m.at)))
	m.up, m.steps, m.choice = true, steps, choice
	return api.OK
}

func (m *model) read(at int) ([]byte, api.Errno) {
	if !m.up {
		return nil, api.ErrDown
	}
	if at < 0 || at >= len(m.stays) {
		return nil, api.ErrDisk
	}
	for i := len(m.at) - 1; i >= 0; i-- {
		if m.at[i] == at {
			return m.data[i], api.OK
		}
	}
	return m.stays[at], api.OK
}

func TestNew(t *testing.T) {
	for _, x := range []struct {
		sectors, room int
		e             api.Errno
	}{{1, 0, api.OK}, {64, 10000, api.OK}, {0, 5, api.ErrDisk}, {-1, 5, api.ErrDisk}, {65, 5, api.ErrDisk}, {2, -1, api.ErrDisk}, {2, 10001, api.ErrDisk}, {math.MaxInt, 1, api.ErrDisk}, {1, math.MinInt, api.ErrDisk}} {
		d, e := disk.New(x.sectors, x.room)
		if e != x.e || (d == nil) != (e != api.OK) {
			t.Error(x, d, e)
		}
		if e != api.OK {
			continue
		}
		if !d.Up() || d.Waits() != 0 || d.Room() != x.room {
			t.Error(x, d.Up(), d.Waits(), d.Room())
		}
		for at := range x.sectors {
			if b, e := d.Read(at); e != api.OK || !bytes.Equal(b, sector(0)) {
				t.Error(x, at, b, e)
			}
		}
		if b, e := d.Read(x.sectors); e != api.ErrDisk || b != nil {
			t.Error(x, b, e)
		}
	}
}

func TestExamples(t *testing.T) {
	a, b := sector(1), sector(2)
	d, _ := disk.New(2, 3)
	is := func(at int, want []byte, e api.Errno) {
		t.Helper()
		if got, f := d.Read(at); !bytes.Equal(got, want) || f != e {
			t.Error(at, got, f)
		}
	}
	say := func(got, want any) {
		t.Helper()
		if got != want {
			t.Error(got, want)
		}
	}
	say(d.Write(0, a), api.OK)
	is(0, a, api.OK)
	say(d.Crash([]byte{10}), api.OK)
	is(0, nil, api.ErrDown)
	say(d.Boot(), api.OK)
	is(0, append(sector(1)[:10], sector(0)[10:]...), api.OK)
	say(d.Write(1, a), api.OK)
	say(d.Flush(), api.OK)
	say(d.Write(1, b), api.OK)
	say(d.Crash([]byte{64}), api.OK)
	say(d.Boot(), api.OK)
	is(1, b, api.OK)
	say(d.Write(0, a), api.ErrFull)
	say(d.Arm(1, nil), api.OK)
	say(d.Flush(), api.ErrDown)
	say(d.Up(), false)
	say(d.Boot(), api.OK)
	say(d.Flush(), api.OK)
}

// TestArm goes through what an arm does by itself.
func TestArm(t *testing.T) {
	d, _ := disk.New(2, 1)
	for _, steps := range []int{0, -1, math.MinInt} {
		if e := d.Arm(steps, nil); e != api.ErrArg {
			t.Error(steps, e)
		}
	}
	choice := []byte{7}
	d.Arm(2, choice)
	choice[0] = 64 // not kept
	for _, e := range []api.Errno{d.Write(2, sector(1)), d.Write(-1, sector(1)), d.Write(0, sector(1)[1:]), d.Write(0, append(sector(1), 1)), d.Write(0, nil)} {
		if e != api.ErrDisk { // no steps
			t.Error(e)
		}
	}
	if e := d.Write(0, sector(1)); e != api.OK {
		t.Error(e)
	}
	d.Read(0)
	if e := d.Write(1, sector(2)); e != api.ErrDown || d.Up() || d.Waits() != 0 {
		t.Error("a write without room is a step", e)
	}
	d.Boot()
	if b, _ := d.Read(0); !bytes.Equal(b, append(sector(1)[:7], sector(0)[7:]...)) {
		t.Error(b)
	}
	if e := d.Write(1, sector(2)); e != api.ErrFull || !d.Up() {
		t.Error("the arm is not gone", e)
	}
	d.Arm(1, nil)
	d.Crash(nil)
	d.Boot()
	if e := d.Flush(); e != api.OK {
		t.Error("a crash leaves the arm", e)
	}
	d.Crash(nil)
	if d.Arm(1, nil) != api.OK || d.Flush() != api.ErrDown || d.Boot() != api.OK || d.Flush() != api.ErrDown {
		t.Error("an arm of a disk that is down")
	}
	d.Boot()
	d.Arm(1, nil)
	d.Arm(2, nil)
	if d.Flush() != api.OK || d.Flush() != api.ErrDown {
		t.Error("an arm in the place of another one")
	}
}

// TestCopy writes to a disk and to its copy by turns.
func TestCopy(t *testing.T) {
	d, _ := disk.New(4, 9)
	for range 3 {
		d.Write(3, sector(9))
	}
	d.Arm(4, []byte{64, 64, 64, 64, 64})
	c := d.Copy()
	for i, x := range []*disk.Disk{d, c, d, c} {
		x.Write(i%2, sector(byte(i+1)))
	}
	for i, x := range []*disk.Disk{d, c} {
		if b, _ := x.Read(i); !bytes.Equal(b, sector(byte(i+3))) || x.Waits() != 5 || x.Room() != 4 {
			t.Error(i, b, x.Waits())
		}
		if b, _ := x.Read(1 - i); !bytes.Equal(b, sector(0)) {
			t.Error(i, b)
		}
	}
	if !d.Up() || d.Write(2, sector(1)) != api.OK || d.Flush() != api.ErrDown || !c.Up() || c.Crash(nil) != api.OK {
		t.Error("arms of a disk and its copy")
	}
}

func TestNone(t *testing.T) {
	var none *disk.Disk
	for i, d := range []*disk.Disk{none, {}} {
		b, e := d.Read(0)
		for j, f := range []api.Errno{e, d.Write(0, sector(1)), d.Write(9, nil), d.Flush(), d.Crash(nil), d.Arm(1, nil), d.Arm(0, nil), d.Boot()} {
			if f != api.ErrNil {
				t.Error(i, j, f)
			}
		}
		if b != nil || d.Up() || d.Waits() != 0 || d.Room() != 0 || d.Copy() != nil {
			t.Error(i)
		}
	}
}

// TestAgainstModel does anything in any order, on a disk and on the model; and on a copy that goes its own way.
func TestAgainstModel(t *testing.T) {
	r := rand.New(rand.NewSource(1))
	for range 400 {
		sectors, room := 1+r.Intn(4), r.Intn(30)
		d, _ := disk.New(sectors, room)
		m := &model{room: room, up: true}
		for range sectors {
			m.stays = append(m.stays, sector(0))
		}
		for range 80 {
			at, data := r.Intn(sectors+2)-1, sector(byte(1+r.Intn(250)))
			data[r.Intn(64)] = 9
			choice := make([]byte, r.Intn(6))
			for i := range choice {
				choice[i] = []byte{0, 1, 63, 64, 65, 255, byte(r.Intn(64))}[r.Intn(7)]
			}
			switch r.Intn(12) {
			case 0, 1, 2, 3:
				if r.Intn(8) == 0 {
					data = data[r.Intn(2):]
				}
				if e, f := d.Write(at, data), m.write(at, data); e != f {
					t.Fatal("write", e, f)
				}
			case 4:
				if e, f := d.Flush(), m.flush(); e != f {
					t.Fatal("flush", e, f)
				}
			case 5:
				e, f := d.Crash(choice), api.ErrDown
				if m.up {
					f = api.OK
					m.fall(choice)
				}
				if e != f {
					t.Fatal("crash", e, f)
				}
			case 6:
				steps := r.Intn(6)
				e, f := d.Arm(steps, choice), api.ErrArg
				if steps > 0 {
					f = api.OK
					m.steps, m.choice = steps, bytes.Clone(choice)
				}
				if e != f {
					t.Fatal("arm", e, f)
				}
			case 7, 8:
				m.up = true
				if e := d.Boot(); e != api.OK {
					t.Fatal("boot", e)
				}
			case 9:
				c := d.Copy()
				d.Write(0, data)
				d.Arm(1, choice)
				d.Flush()
				d.Boot()
				d.Write(0, data)
				d = c
			}
			if d.Up() != m.up || d.Waits() != len(m.at) || d.Room() != m.room {
				t.Fatal(d.Up(), d.Waits(), d.Room(), m)
			}
			for at := -1; at <= sectors; at++ {
				got, e := d.Read(at)
				want, f := m.read(at)
				if e != f || !bytes.Equal(got, want) {
					t.Fatal("read", at, got, e, want, f)
				}
				clear(got)
			}
			clear(data)
			clear(choice)
		}
	}
}

// TestWhatFollows crashes by each choice of one write's bytes, and of two for one sector.
func TestWhatFollows(t *testing.T) {
	for kept := range 256 {
		d, _ := disk.New(1, 5)
		d.Write(0, sector(1))
		d.Flush()
		d.Write(0, sector(2))
		d.Write(0, sector(3))
		one := d.Copy()
		one.Crash([]byte{byte(kept)})
		one.Boot()
		want := sector(1)
		copy(want, sector(2)[:min(kept, 64)])
		if b, _ := one.Read(0); !bytes.Equal(b, want) {
			t.Fatal(kept, b)
		}
		d.Crash([]byte{64, byte(kept)})
		d.Boot()
		want = sector(2)
		copy(want, sector(3)[:min(kept, 64)])
		if b, _ := d.Read(0); !bytes.Equal(b, want) {
			t.Fatal(kept, b)
		}
	}
}
