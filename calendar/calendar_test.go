package calendar_test

import (
	"math/rand"
	"testing"
	"time"

	"newswire/api"
	"newswire/calendar"
)

func civil(minute, offset int) api.Civil {
	d := time.Date(2000, 1, 1, 0, minute+offset, 0, 0, time.UTC)
	return api.Civil{Year: d.Year(), Month: int(d.Month()), Day: d.Day(), Hour: d.Hour(), Minute: d.Minute(), Weekday: (int(d.Weekday()) + 6) % 7}
}

func some(r *rand.Rand) (int, int) {
	minute, offset := r.Intn(api.MaxTime+1), r.Intn(2*api.MaxOffset+1)-api.MaxOffset
	switch r.Intn(8) {
	case 0:
		minute = r.Intn(2000)
	case 1:
		minute = api.MaxTime - r.Intn(2000)
	}
	return minute, offset
}

func TestP6_1Parts(t *testing.T) {
	r := rand.New(rand.NewSource(1))
	for range 3000 {
		minute, offset := some(r)
		if c, e := calendar.Parts(minute, offset); c != civil(minute, offset) || e != api.OK {
			t.Fatal(minute, offset, c, e)
		}
	}
	if c, _ := calendar.Parts(0, -60); c != (api.Civil{Year: 1999, Month: 12, Day: 31, Hour: 23, Weekday: 4}) {
		t.Error(c)
	}
	if d, s, e := calendar.Print(84960, 60); d != "2000-02-29" || s != "01:00" || e != api.OK {
		t.Error(d, s, e)
	}
}

func TestP6_1Errors(t *testing.T) {
	for _, a := range [][2]int{{-1, 0}, {api.MaxTime + 1, 0}, {0, 841}, {0, -841}, {1 << 62, 1 << 62}} {
		if c, e := calendar.Parts(a[0], a[1]); c != (api.Civil{}) || e != api.ErrCalendar {
			t.Error("Parts", a, c, e)
		}
		if d, s, e := calendar.Print(a[0], a[1]); d != "" || s != "" || e != api.ErrCalendar {
			t.Error("Print", a, d, s, e)
		}
	}
	c := api.Civil{Year: 2000, Month: 1, Day: 1, Weekday: 5}
	for _, change := range []func(*api.Civil){
		func(c *api.Civil) { c.Weekday = 4 }, func(c *api.Civil) { c.Month = 13 }, func(c *api.Civil) { c.Month = 0 }, func(c *api.Civil) { c.Day = 32 }, func(c *api.Civil) { c.Day = 0 },
		func(c *api.Civil) { c.Hour = 24 }, func(c *api.Civil) { c.Hour = -1 }, func(c *api.Civil) { c.Minute = 60 }, func(c *api.Civil) { c.Minute = -1 }, func(c *api.Civil) { c.Year = 1999 }, func(c *api.Civil) { c.Year = 3000 }, func(c *api.Civil) { c.Year = -1 << 63 },
	} {
		d := c
		change(&d)
		if m, e := calendar.Minute(d, 0); m != 0 || e != api.ErrCalendar {
			t.Error("Minute", d, m, e)
		}
	}
	if m, e := calendar.Minute(c, 841); m != 0 || e != api.ErrCalendar {
		t.Error("Minute at no offset", m, e)
	}
	for _, s := range [][2]string{{"2000-02-30", "00:00"}, {"1999-12-31", "23:59"}, {"2000-1-01", "00:00"}, {"2000-01-01", "0:00"}, {"2000-01-01", "24:00"}, {"2000/01/01", "00:00"}, {"", ""}, {"2000-01-01", "00:0x"}, {"+200-01-01", "00:00"}, {"2000-01-01-", "00:00"}, {"9999-01-01", "00:00"}, {"2000-13-01", "00:00"}} {
		if m, e := calendar.Read(s[0], s[1], 0); m != 0 || e != api.ErrCalendar {
			t.Error("Read", s, m, e)
		}
	}
	if _, e := calendar.Read("2000-01-02", "00:00", -841); e != api.ErrCalendar {
		t.Error("Read at no offset")
	}
}

func TestP6_2ThereAndBack(t *testing.T) {
	r := rand.New(rand.NewSource(2))
	for range 2000 {
		minute, offset := some(r)
		c, _ := calendar.Parts(minute, offset)
		if m, e := calendar.Minute(c, offset); m != minute || e != api.OK {
			t.Fatal(minute, offset, m, e)
		}
		d, s, _ := calendar.Print(minute, offset)
		if m, e := calendar.Read(d, s, offset); m != minute || e != api.OK {
			t.Fatal(d, s, offset, m, e)
		}
	}
}

func TestP6_3Order(t *testing.T) {
	r := rand.New(rand.NewSource(3))
	for range 1000 {
		a, offset := some(r)
		b, _ := some(r)
		d, s, _ := calendar.Print(a, offset)
		f, u, _ := calendar.Print(b, offset)
		if (a < b) != (d+s < f+u) {
			t.Fatal(a, b, offset)
		}
	}
}

func TestP6_4Next(t *testing.T) {
	for minute := range 3000 {
		a, _ := calendar.Parts(minute, 7)
		b, _ := calendar.Parts(minute+1, 7)
		if b.Minute != (a.Minute+1)%60 || a.Minute < 59 && b.Hour != a.Hour {
			t.Fatal(minute)
		}
		c, _ := calendar.Parts(minute+1440, 7)
		d, _ := calendar.Parts(minute+7*1440, 7)
		if c.Hour != a.Hour || c.Minute != a.Minute || c.Weekday != (a.Weekday+1)%7 || d.Weekday != a.Weekday {
			t.Fatal(minute)
		}
	}
}

func TestP6_5Offsets(t *testing.T) {
	r := rand.New(rand.NewSource(4))
	for range 1000 {
		minute, p := some(r)
		_, q := some(r)
		a, _ := calendar.Parts(minute, p)
		b, _ := calendar.Parts(minute, q)
		x := time.Date(a.Year, time.Month(a.Month), a.Day, a.Hour, a.Minute, 0, 0, time.UTC)
		y := time.Date(b.Year, time.Month(b.Month), b.Day, b.Hour, b.Minute, 0, 0, time.UTC)
		if int(x.Sub(y).Minutes()) != p-q || abs(int(x.Truncate(24*time.Hour).Sub(y.Truncate(24*time.Hour)).Hours())) > 48 {
			t.Fatal(minute, p, q)
		}
	}
}

func abs(n int) int { return max(n, -n) }

func TestP6_6Days(t *testing.T) {
	for _, c := range [][3]int{{1900, 2, 28}, {2000, 2, 29}, {2004, 2, 29}, {2001, 12, 31}, {0, 1, 0}, {10000, 1, 0}, {2000, 0, 0}, {2000, 13, 0}, {9999, 12, 31}, {1, 1, 31}} {
		if d := calendar.Days(c[0], c[1]); d != c[2] {
			t.Error(c, d)
		}
	}
	long := 0
	for year := 1601; year <= 2000; year++ {
		sum := 0
		for m := range 12 {
			sum += calendar.Days(year, m+1)
		}
		if sum == 366 {
			long++
		} else if sum != 365 {
			t.Fatal(year, sum)
		}
	}
	if long != 97 {
		t.Error(long)
	}
}

func TestP6_1Limits(t *testing.T) {
	for _, minute := range []int{0, api.MaxTime} {
		for _, offset := range []int{-840, 0, 840} {
			if c, e := calendar.Parts(minute, offset); c != civil(minute, offset) || e != api.OK {
				t.Error(minute, offset, c, e)
			}
		}
	}
	c := api.Civil{Year: 2001, Month: 1, Day: 1}
	for _, offset := range []int{-841, 841} {
		if _, e := calendar.Minute(c, offset); e != api.ErrCalendar {
			t.Error(offset, e)
		}
		if _, e := calendar.Read("2001-01-01", "00:00", offset); e != api.ErrCalendar {
			t.Error(offset, e)
		}
	}
	for _, s := range []string{"2000-01-1/", "2000-01-0:", "2000-0:-01", "200/-01-01", "2000-01-001"} {
		if _, e := calendar.Read(s, "00:00", 0); e != api.ErrCalendar {
			t.Error(s, e)
		}
	}
}
