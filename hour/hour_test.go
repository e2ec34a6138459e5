package hour_test

import (
	"math"
	"math/rand"
	"strings"
	"testing"
	"time"

	"postmark/api"
	"postmark/hour"
)

const (
	dayMillis = 24 * 60 * 60 * 1000
	lastDay   = api.MaxTime / dayMillis
)

func TestDays(t *testing.T) {
	for _, x := range []struct {
		year, month, day, want int
		e                      api.Errno
	}{
		{2000, 3, 1, 11017, api.OK}, {1970, 1, 1, 0, api.OK}, {9999, 12, 31, lastDay, api.OK}, {2000, 2, 29, 11016, api.OK}, {1972, 2, 29, 789, api.OK},
		{1900, 1, 1, 0, api.ErrHour}, {2001, 2, 29, 0, api.ErrHour}, {1969, 12, 31, 0, api.ErrHour}, {10000, 1, 1, 0, api.ErrHour}, {2100, 2, 29, 0, api.ErrHour}, {2000, 2, 30, 0, api.ErrHour}, {2000, 0, 1, 0, api.ErrHour}, {2000, 13, 1, 0, api.ErrHour}, {2000, 1, 0, 0, api.ErrHour}, {2000, 1, 32, 0, api.ErrHour}, {2000, 4, 31, 0, api.ErrHour}, {2000, -1, 1, 0, api.ErrHour}, {2000, 1, -1, 0, api.ErrHour},
		{math.MaxInt, 1, 1, 0, api.ErrHour}, {2000, math.MaxInt, 1, 0, api.ErrHour}, {2000, 1, math.MaxInt, 0, api.ErrHour}, {2000, 1, math.MinInt, 0, api.ErrHour}, {math.MinInt, 1, 1, 0, api.ErrHour},
	} {
		if n, e := hour.Days(x.year, x.month, x.day); n != x.want || e != x.e {
			t.Error(x, n, e)
		}
	}
}

func TestDate(t *testing.T) {
	for _, x := range []struct {
		days, year, month, day int
		e                      api.Errno
	}{{365, 1971, 1, 1, api.OK}, {0, 1970, 1, 1, api.OK}, {lastDay, 9999, 12, 31, api.OK}, {-1, 0, 0, 0, api.ErrHour}, {lastDay + 1, 0, 0, 0, api.ErrHour}, {math.MaxInt, 0, 0, 0, api.ErrHour}, {math.MinInt, 0, 0, 0, api.ErrHour}} {
		if year, month, day, e := hour.Date(x.days); year != x.year || month != x.month || day != x.day || e != x.e {
			t.Error(x, year, month, day, e)
		}
	}
}

// TestAllDates goes through all the days of some centuries, and some of the others.
func TestAllDates(t *testing.T) {
	step := 1
	for days := 0; days <= lastDay; days += step {
		if days > 180000 {
			step = 97
		}
		at := time.Unix(int64(days)*86400, 0).UTC()
		year, month, day, e := hour.Date(days)
		if e != api.OK || year != at.Year() || month != int(at.Month()) || day != at.Day() {
			t.Fatal(days, year, month, day, e)
		}
		if n, e := hour.Days(year, month, day); n != days || e != api.OK {
			t.Fatal(days, n, e)
		}
	}
}

func TestGeneral(t *testing.T) {
	for _, x := range []struct {
		t    int64
		want string
		e    api.Errno
	}{
		{0, "19700101000000Z", api.OK}, {951782400500, "20000229000000.5Z", api.OK}, {api.MaxTime, "99991231235959.999Z", api.OK}, {1, "19700101000000.001Z", api.OK}, {10, "19700101000000.01Z", api.OK}, {120, "19700101000000.12Z", api.OK}, {951782399999, "20000228235959.999Z", api.OK}, {86399000, "19700101235959Z", api.OK},
		{-1, "", api.ErrHour}, {api.MaxTime + 1, "", api.ErrHour}, {math.MaxInt64, "", api.ErrHour}, {math.MinInt64, "", api.ErrHour},
	} {
		if s, e := hour.General(x.t); s != x.want || e != x.e {
			t.Error(x.t, s, e)
		}
		if x.e != api.OK {
			continue
		}
		if back, e := hour.ReadGeneral(x.want); back != x.t || e != api.OK {
			t.Error(x.want, back, e)
		}
	}
}

func TestReadGeneralWrong(t *testing.T) {
	for _, s := range []string{
		"20000229000000.50Z", "20010229000000Z", "20000101240000Z", "", "Z", "2000", "20000101", "200001010000Z", "20000101000000", "20000101000000z", "20000101000000ZZ", "20000101000000.Z", "20000101000000.0Z", "20000101000000.000Z", "20000101000000.1234Z", "20000101000000.5", "20000101000000,5Z", "20000101000000..5Z", "20000101000000.5.Z", "20000101000000.-1Z", "20000101000000.+1Z", "20000101000000.1 Z", "20000101000000.a1Z", "20000101006000Z", "20000101000060Z", "20001301000000Z", "20000001000000Z", "20000100000000Z", "20000431000000Z", "19691231235959Z", "00000101000000Z", "2000010100000aZ", "a0000101000000Z", "+2000101000000Z", "200001010000-1Z", "2000-101000000Z", "2000+101000000Z", "20000101000000+0Z", " 20000101000000Z", "20000101000000Z ", "700101000000Z", "20000101-10000Z", "99991231235959.9999Z", "20000101000000.Z5", "20000101000000Z.5", "2000010100000\xd9\xa0Z",
	} {
		if n, e := hour.ReadGeneral(s); n != 0 || e != api.ErrHour {
			t.Errorf("%q %v %v", s, n, e)
		}
	}
}

func TestShort(t *testing.T) {
	const end = 2524608000000 // 2050
	for _, x := range []struct {
		t    int64
		want string
		e    api.Errno
	}{
		{0, "700101000000Z", api.OK}, {end - 1000, "491231235959Z", api.OK}, {951782400000, "000229000000Z", api.OK}, {946684799000, "991231235959Z", api.OK},
		{1, "", api.ErrHour}, {999, "", api.ErrHour}, {1500, "", api.ErrHour}, {end, "", api.ErrHour}, {-1, "", api.ErrHour}, {-1000, "", api.ErrHour}, {api.MaxTime + 1, "", api.ErrHour}, {api.MaxTime, "", api.ErrHour},
	} {
		if s, e := hour.Short(x.t); s != x.want || e != x.e {
			t.Error(x.t, s, e)
		}
		if x.e != api.OK {
			continue
		}
		if back, e := hour.ReadShort(x.want); back != x.t || e != api.OK {
			t.Error(x.want, back, e)
		}
	}
	for _, s := range []string{"500101000000Z", "691231235959Z", "", "Z", "19700101000000Z", "700101000000", "700101000000z", "700101000000.5Z", "700101000000.Z", "010229000000Z", "700101240000Z", "700101006000Z", "700101000060Z", "701301000000Z", "700100000000Z", "-10101000000Z", "+10101000000Z", "7001010000Z", "7001010000000Z", "70010100000aZ", " 700101000000Z"} {
		if n, e := hour.ReadShort(s); n != 0 || e != api.ErrHour {
			t.Errorf("%q %v %v", s, n, e)
		}
	}
}

// TestAgainstModel holds texts against the library's.
func TestAgainstModel(t *testing.T) {
	r := rand.New(rand.NewSource(1))
	format := func(t int64) string {
		s := time.UnixMilli(t).UTC().Format("20060102150405")
		if t%1000 != 0 {
			s += strings.TrimRight(time.UnixMilli(t).UTC().Format(".000"), "0")
		}
		return s + "Z"
	}
	for range 5000 {
		n := r.Int63n(api.MaxTime + 1)
		if r.Intn(2) == 0 {
			n -= n % 1000
		}
		if r.Intn(2) == 0 {
			n %= 3000000000000
		}
		s, e := hour.General(n)
		if e != api.OK || s != format(n) {
			t.Fatal(n, s, e)
		}
		if back, e := hour.ReadGeneral(s); back != n || e != api.OK {
			t.Fatal(s, back, e)
		}
		short, e := hour.Short(n)
		has := n%1000 == 0 && n < 2524608000000
		if (e == api.OK) != has || has && short != s[2:] {
			t.Fatal(n, short, e)
		}
		if back, e := hour.ReadShort(short); has && (back != n || e != api.OK) {
			t.Fatal(short, back, e)
		}
		m := r.Int63n(api.MaxTime+1) / 1000 * 1000
		n = n / 1000 * 1000
		a, _ := hour.General(n)
		b, _ := hour.General(m)
		if (n < m) != (a < b) {
			t.Fatal(n, m, a, b)
		}
	}
}

func TestWidth(t *testing.T) {
	for _, x := range []struct {
		a    api.Accuracy
		want int64
		e    api.Errno
	}{
		{api.Accuracy{}, 0, api.OK}, {api.Accuracy{Seconds: 1, Millis: 2, Micros: 3}, 1002003, api.OK}, {api.Accuracy{Seconds: api.MaxSeconds, Millis: 999, Micros: 999}, 2147483647999999, api.OK},
		{api.Accuracy{Seconds: api.MaxSeconds + 1}, 0, api.ErrHour}, {api.Accuracy{Seconds: -1}, 0, api.ErrHour}, {api.Accuracy{Millis: 1000}, 0, api.ErrHour}, {api.Accuracy{Millis: -1}, 0, api.ErrHour}, {api.Accuracy{Micros: 1000}, 0, api.ErrHour}, {api.Accuracy{Micros: -1}, 0, api.ErrHour}, {api.Accuracy{Seconds: math.MaxInt}, 0, api.ErrHour},
	} {
		if n, e := hour.Width(x.a); n != x.want || e != x.e {
			t.Error(x.a, n, e)
		}
	}
}

func TestOrder(t *testing.T) {
	half, less := api.Accuracy{Millis: 500}, api.Accuracy{Millis: 499, Micros: 999}
	widest := api.Accuracy{Seconds: api.MaxSeconds, Millis: 999, Micros: 999}
	wrong := api.Accuracy{Millis: 1000}
	for i, x := range []struct {
		a, b int64
		x, y api.Accuracy
		want int
		e    api.Errno
	}{
		{0, 1000, half, half, 0, api.OK}, {0, 1000, half, less, -1, api.OK}, {0, 1000, less, half, -1, api.OK}, {1000, 0, half, less, 1, api.OK}, {1000, 0, half, half, 0, api.OK}, {5, 5, api.Accuracy{}, api.Accuracy{}, 0, api.OK}, {5, 6, api.Accuracy{}, api.Accuracy{}, -1, api.OK}, {6, 5, api.Accuracy{}, api.Accuracy{}, 1, api.OK},
		{0, api.MaxTime, widest, widest, -1, api.OK}, {0, 4294967295999, widest, widest, 0, api.OK}, {0, 4294967296000, widest, widest, -1, api.OK},
		{-1, 5, half, half, 0, api.ErrHour}, {5, -1, half, half, 0, api.ErrHour}, {api.MaxTime + 1, 5, half, half, 0, api.ErrHour}, {5, api.MaxTime + 1, half, half, 0, api.ErrHour}, {0, 9000, wrong, half, 0, api.ErrHour}, {0, 9000, half, wrong, 0, api.ErrHour}, {math.MinInt64, math.MaxInt64, half, half, 0, api.ErrHour},
	} {
		if n, e := hour.Order(x.a, x.b, x.x, x.y); n != x.want || e != x.e {
			t.Error(i, n, e)
		}
	}
}

// TestOrderFollows: order turns round with its arguments, and goes on from one to the next.
func TestOrderFollows(t *testing.T) {
	r := rand.New(rand.NewSource(2))
	ahead := 0
	for range 5000 {
		at := [3]int64{r.Int63n(9000), r.Int63n(9000), r.Int63n(9000)}
		var a [3]api.Accuracy
		for i := range a {
			a[i] = api.Accuracy{Seconds: r.Intn(3), Millis: r.Intn(1000), Micros: r.Intn(1000)}
		}
		order := func(i, j int) int {
			n, e := hour.Order(at[i], at[j], a[i], a[j])
			if e != api.OK {
				t.Fatal(e)
			}
			return n
		}
		if order(0, 1) != -order(1, 0) {
			t.Fatal(at, a)
		}
		if order(0, 1) == -1 && order(1, 2) == -1 {
			ahead++
			if order(0, 2) != -1 {
				t.Fatal(at, a)
			}
		}
	}
	if ahead == 0 {
		t.Error("none is surely ahead")
	}
}
