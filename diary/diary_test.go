package diary_test

import (
	"encoding/binary"
	"math"
	"math/rand"
	"testing"

	"postmark/api"
	"postmark/diary"
	"postmark/disk"
	"postmark/slot"
)

func fresh(t *testing.T, room int) *disk.Disk {
	d, e := disk.New(2, room)
	if e != api.OK {
		t.Fatal(e)
	}
	return d
}

// bytesOf are a record's: serial, time and what is behind.
func bytesOf(serial, at, rest uint64) []byte {
	b := binary.BigEndian.AppendUint64(nil, serial)
	b = binary.BigEndian.AppendUint64(b, at)
	return binary.BigEndian.AppendUint64(b, rest)
}

func last(t *testing.T, x *diary.Diary, serial, at int64) {
	t.Helper()
	if s, a := x.Last(); s != serial || a != at {
		t.Error(s, a, "not", serial, at)
	}
}

func TestExamples(t *testing.T) {
	d := fresh(t, 100)
	x, e := diary.Open(d, 41)
	if e != api.OK {
		t.Fatal(e)
	}
	last(t, x, 41, 0)
	for _, s := range []struct {
		time, serial, at int64
		e                api.Errno
	}{{5000, 42, 5000, api.OK}, {4000, 43, 5000, api.OK}, {-1, 0, 0, api.ErrDiary}, {api.MaxTime + 1, 0, 0, api.ErrDiary}, {math.MinInt64, 0, 0, api.ErrDiary}} {
		if serial, at, e := x.Reserve(s.time); serial != s.serial || at != s.at || e != s.e {
			t.Error(s, serial, at, e)
		}
	}
	last(t, x, 43, 5000)
	if d.Room() != 98 {
		t.Error("what is refused writes", d.Room())
	}
	if r, _, _ := slot.Load(d); r.N != 2 || string(r.Data) != string(bytesOf(43, 5000, 0)) {
		t.Error(r)
	}
	again, e := diary.Open(d, 7)
	if e != api.OK {
		t.Fatal(e)
	}
	last(t, again, 43, 5000)
	if serial, at, e := again.Reserve(api.MaxTime); serial != 44 || at != api.MaxTime || e != api.OK {
		t.Error(serial, at, e)
	}
	if serial, at, e := again.Reserve(0); serial != 45 || at != api.MaxTime || e != api.OK {
		t.Error(serial, at, e)
	}
}

func TestOpenWrong(t *testing.T) {
	small, _ := disk.New(1, 9)
	down := fresh(t, 9)
	down.Crash(nil)
	for i, x := range []struct {
		d     *disk.Disk
		first int64
		e     api.Errno
	}{{nil, -1, api.ErrDiary}, {nil, 1, api.ErrNil}, {&disk.Disk{}, 1, api.ErrNil}, {small, 1, api.ErrDisk}, {small, -1, api.ErrDiary}, {down, 1, api.ErrDown}, {fresh(t, 9), math.MinInt64, api.ErrDiary}} {
		if y, e := diary.Open(x.d, x.first); y != nil || e != x.e {
			t.Error(i, y, e)
		}
	}
	for i, x := range []struct {
		serial, at, rest uint64
		e                api.Errno
	}{{5, 6, 0, api.OK}, {api.MaxSerial, api.MaxTime, 0, api.OK}, {0, 0, 0, api.OK}, {api.MaxSerial + 1, 6, 0, api.ErrDiary}, {math.MaxUint64, 6, 0, api.ErrDiary}, {5, api.MaxTime + 1, 0, api.ErrDiary}, {5, math.MaxUint64, 0, api.ErrDiary}, {5, 6, 1, api.ErrDiary}, {5, 6, 1 << 63, api.ErrDiary}} {
		d := fresh(t, 9)
		slot.Save(d, bytesOf(x.serial, x.at, x.rest))
		y, e := diary.Open(d, 3)
		if e != x.e || (y == nil) != (e != api.OK) {
			t.Error(i, y, e)
		}
		if e == api.OK {
			last(t, y, int64(x.serial), int64(x.at))
		}
	}
}

func TestNoSerial(t *testing.T) {
	d := fresh(t, 9)
	x, e := diary.Open(d, api.MaxSerial)
	if e != api.OK {
		t.Fatal(e)
	}
	if serial, at, e := x.Reserve(0); serial != 0 || at != 0 || e != api.ErrSerial || d.Room() != 9 {
		t.Error(serial, at, e)
	}
	if _, _, e := x.Reserve(-1); e != api.ErrDiary {
		t.Error(e)
	}
	last(t, x, api.MaxSerial, 0)
	x, _ = diary.Open(d, api.MaxSerial-1)
	if serial, at, e := x.Reserve(7); serial != api.MaxSerial || at != 7 || e != api.OK {
		t.Error(serial, at, e)
	}
	if _, _, e := x.Reserve(8); e != api.ErrSerial {
		t.Error(e)
	}
	last(t, x, api.MaxSerial, 7)
	zero, _ := diary.Open(fresh(t, 9), 0)
	if serial, _, e := zero.Reserve(0); serial != 1 || e != api.OK {
		t.Error(serial, e)
	}
}

func TestNone(t *testing.T) {
	var none *diary.Diary
	for i, x := range []*diary.Diary{none, {}} {
		last(t, x, 0, 0)
		for _, time := range []int64{5, -1} {
			if serial, at, e := x.Reserve(time); serial != 0 || at != 0 || e != api.ErrNil {
				t.Error(i, serial, at, e)
			}
		}
	}
}

// TestErrors: with the disk's errors the last ones are as they were.
func TestErrors(t *testing.T) {
	d := fresh(t, 2)
	x, _ := diary.Open(d, 10)
	x.Reserve(100)
	d.Arm(1, nil)
	if serial, at, e := x.Reserve(200); serial != 0 || at != 0 || e != api.ErrDown {
		t.Error(serial, at, e)
	}
	last(t, x, 11, 100)
	if _, _, e := x.Reserve(200); e != api.ErrDown {
		t.Error(e)
	}
	d.Boot()
	if serial, at, e := x.Reserve(200); serial != 0 || at != 0 || e != api.ErrFull {
		t.Error(serial, at, e)
	}
	last(t, x, 11, 100)
}

// TestCrashes reserves, crashes and opens again by chance: serials rise, with at most as many left out as there were crashes, and times never fall.
func TestCrashes(t *testing.T) {
	r := rand.New(rand.NewSource(1))
	gaps := 0
	for range 300 {
		d := fresh(t, 1000)
		lastSerial, lastAt, crashes := int64(r.Intn(50)), int64(0), int64(0)
		x, e := diary.Open(d, lastSerial)
		if e != api.OK {
			t.Fatal(e)
		}
		for range 60 {
			choice := []byte{[]byte{0, 10, 59, 60, 64, byte(r.Intn(64))}[r.Intn(6)]}
			switch r.Intn(8) {
			case 0:
				d.Arm(1+r.Intn(3), choice)
			case 1:
				if d.Up() {
					d.Crash(choice)
					crashes++
				}
			}
			time := r.Int63n(100000)
			serial, at, e := x.Reserve(time)
			if !d.Up() {
				if e != api.ErrDown || serial != 0 || at != 0 {
					t.Fatal(serial, at, e)
				}
				crashes++
				d.Boot()
				if x, e = diary.Open(d, lastSerial); e != api.OK {
					t.Fatal(e)
				}
				continue
			}
			if e != api.OK || serial <= lastSerial || serial-lastSerial-1 > crashes || at < lastAt || at < time {
				t.Fatal(serial, lastSerial, crashes, at, lastAt, time, e)
			}
			if serial > lastSerial+1 {
				gaps++
			}
			last(t, x, serial, at)
			lastSerial, lastAt, crashes = serial, at, 0
		}
	}
	if gaps == 0 {
		t.Error("no crash kept a serial")
	}
}
