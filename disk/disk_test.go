package disk_test

import (
	"math/rand"
	"slices"
	"strings"
	"testing"

	"newswire/api"
	"newswire/disk"
)

func fresh(t *testing.T, size int) *disk.Disk {
	t.Helper()
	d, e := disk.New(size)
	if e != api.OK {
		t.Fatal(e)
	}
	return d
}

func expect(t *testing.T, what string, e, want api.Errno) {
	t.Helper()
	if e != want {
		t.Errorf("%s: %d, want %d", what, e, want)
	}
}

func content(t *testing.T, d *disk.Disk, want string) {
	t.Helper()
	if s, e := d.Read(0, d.Size()); s != want || e != api.OK {
		t.Errorf("%q, %d; want %q", s, e, want)
	}
}

func TestP33_1Examples(t *testing.T) {
	d := fresh(t, 4)
	expect(t, "beyond the end", d.Write(2, "abc"), api.ErrDisk)
	expect(t, "nothing at the end", d.Write(4, ""), api.OK)
	if _, e := d.Read(0, 5); e != api.ErrDisk || d.Pending() != 1 || d.Size() != 4 {
		t.Error(e)
	}
	d = fresh(t, 4)
	d.Write(0, "ab")
	d.Write(1, "xy")
	content(t, d, "axy\x00")
	d.Crash([]int{0, 1}, 1)
	content(t, d, "ax\x00\x00")
	d = fresh(t, 1)
	d.Write(0, "a")
	d.Crash(nil, -1)
	content(t, d, "\x00")
	d.Write(0, "a")
	expect(t, "Sync", d.Sync(), api.OK)
	d.Write(0, "b")
	d.Crash(nil, -1)
	content(t, d, "a")
	d.Write(0, "c")
	d.Write(0, "b")
	d.Crash([]int{1, 0, 7, 0, -1}, -1)
	content(t, d, "b")
	expect(t, "Cut", d.Cut(1), api.OK)
	expect(t, "the last write", d.Write(0, "a"), api.OK)
	expect(t, "a write without power", d.Write(0, "b"), api.ErrPower)
	expect(t, "Crash", d.Crash([]int{0}, -1), api.OK)
	content(t, d, "a")
}

func TestP33_1Errors(t *testing.T) {
	for size, want := range map[int]api.Errno{0: api.ErrArg, -1: api.ErrArg, 4194305: api.ErrArg, 4194304: api.OK, 1: api.OK} {
		d, e := disk.New(size)
		if e != want || (d == nil) != (e != api.OK) {
			t.Error(size, e)
		}
	}
	var none *disk.Disk
	expect(t, "Write", none.Write(0, ""), api.ErrNil)
	expect(t, "Sync", none.Sync(), api.ErrNil)
	expect(t, "Cut", none.Cut(-1), api.ErrNil)
	expect(t, "Crash", none.Crash(nil, 0), api.ErrNil)
	if s, e := none.Read(0, 0); s != "" || e != api.ErrNil || none.Pending() != 0 || none.Size() != 0 {
		t.Error(s, e)
	}
	d := fresh(t, 4)
	for _, a := range [][2]int{{-1, 1}, {0, -1}, {4, 1}, {5, 0}, {1 << 62, 1}, {1, 1<<63 - 1}} {
		if s, e := d.Read(a[0], a[1]); s != "" || e != api.ErrDisk {
			t.Error(a, e)
		}
	}
	expect(t, "before the beginning", d.Write(-1, "a"), api.ErrDisk)
	expect(t, "far beyond", d.Write(1<<63-1, "a"), api.ErrDisk)
	expect(t, "a negative cut", d.Cut(-1), api.ErrArg)
	expect(t, "a cut now", d.Cut(0), api.OK)
	expect(t, "Cut", d.Cut(-1), api.ErrPower)
	expect(t, "Write", d.Write(-1, "a"), api.ErrPower)
	expect(t, "Sync", d.Sync(), api.ErrPower)
	if s, e := d.Read(-1, 1); s != "" || e != api.ErrPower || d.Size() != 4 {
		t.Error(s, e)
	}
}

func TestP33_2WrittenLast(t *testing.T) {
	r := rand.New(rand.NewSource(1))
	for range 200 {
		d, want := fresh(t, 20), make([]byte, 20)
		synced := slices.Clone(want)
		written := make([]bool, 20)
		for range 20 {
			at := r.Intn(20)
			s := strings.Repeat(string(rune('a'+r.Intn(26))), r.Intn(21-at))
			d.Write(at, s)
			copy(want[at:], s)
			for i := range len(s) {
				written[at+i] = true
			}
			content(t, d, string(want))
			if r.Intn(5) == 0 {
				d.Sync()
				copy(synced, want)
				clear(written)
			}
		}
		d.Crash([]int{r.Intn(20), r.Intn(20), r.Intn(20)}, r.Intn(5)-1)
		s, _ := d.Read(0, 20)
		for i := range 20 {
			if !written[i] && s[i] != synced[i] {
				t.Fatal("what was synced is lost", i)
			}
		}
	}
}

func TestP33_3Crashes(t *testing.T) {
	r := rand.New(rand.NewSource(2))
	for range 300 {
		d := fresh(t, 10)
		d.Write(0, "0123456789")
		d.Sync()
		want := []byte("0123456789")
		var keep []int
		type write struct {
			at int
			s  string
		}
		var l []write
		for i := range r.Intn(6) {
			at := r.Intn(10)
			l = append(l, write{at, strings.Repeat(string(rune('a'+i)), r.Intn(11-at))})
			d.Write(at, l[i].s)
			if r.Intn(2) == 0 {
				keep = append(keep, i)
			}
		}
		torn := r.Intn(6) - 1
		for k, i := range keep {
			s := l[i].s
			if k == len(keep)-1 && torn >= 0 {
				s = s[:min(torn, len(s))]
			}
			copy(want[l[i].at:], s)
		}
		d.Crash(keep, torn)
		content(t, d, string(want))
		if d.Pending() != 0 {
			t.Fatal(d.Pending())
		}
	}
}

func TestP33_4Cuts(t *testing.T) {
	for n := 1; n < 6; n++ {
		d, other := fresh(t, 8), fresh(t, 8)
		d.Cut(99)
		expect(t, "Cut", d.Cut(n), api.OK)
		for range n {
			expect(t, "no valid write", d.Write(9, "x"), api.ErrDisk)
			expect(t, "Sync", d.Sync(), api.OK)
			expect(t, "Write", d.Write(0, "x"), api.OK)
			expect(t, "Write", other.Write(0, "y"), api.OK)
		}
		expect(t, "Write", d.Write(0, "x"), api.ErrPower)
		expect(t, "Sync", d.Sync(), api.ErrPower)
		expect(t, "Cut", d.Cut(1), api.ErrPower)
		expect(t, "Write", other.Write(0, "z"), api.OK)
		d.Crash(nil, -1)
		for range 9 {
			expect(t, "Write", d.Write(0, "x"), api.OK)
		}
		content(t, other, "z\x00\x00\x00\x00\x00\x00\x00")
	}
}
