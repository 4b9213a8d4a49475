package journal_test

import (
	"math/rand"
	"slices"
	"strings"
	"testing"

	"newswire/api"
	"newswire/digest"
	"newswire/disk"
	"newswire/journal"
	"newswire/wire"
)

func fresh(t *testing.T, size int) *disk.Disk {
	t.Helper()
	d, e := disk.New(size)
	if e != api.OK {
		t.Fatal(e)
	}
	return d
}

func open(t *testing.T, d *disk.Disk) *journal.Journal {
	t.Helper()
	j, e := journal.Open(d)
	if e != api.OK || j == nil {
		t.Fatal(e)
	}
	return j
}

func add(t *testing.T, j *journal.Journal, l ...string) {
	t.Helper()
	if e := j.Append(l); e != api.OK {
		t.Fatal(e)
	}
}

// stored is what a disk has that stores these records.
func stored(l ...string) string {
	s, head := "", strings.Repeat("\x00", 32)
	for _, x := range l {
		p, _ := wire.PutString(x)
		head = digest.Chain(head, x)
		s += "\x01" + p + head
	}
	return s
}

// group is a random group of records.
func group(r *rand.Rand) []string {
	var l []string
	for range 1 + r.Intn(3) {
		l = append(l, strings.Repeat(string(rune('a'+r.Intn(26))), r.Intn(90)))
	}
	return l
}

func TestP34_1Examples(t *testing.T) {
	d := fresh(t, 200)
	j := open(t, d)
	if len(j.Records()) != 0 || j.Room() != 200 || d.Pending() != 0 {
		t.Error(j.Records(), j.Room())
	}
	add(t, j, "ab", "")
	if !slices.Equal(j.Records(), []string{"ab", ""}) || j.Room() != 130 {
		t.Error(j.Records(), j.Room())
	}
	if e := j.Append([]string{strings.Repeat("x", 96)}); e != api.ErrFull || j.Room() != 130 || len(j.Records()) != 2 {
		t.Error(e)
	}
	add(t, j, strings.Repeat("x", 95))
	if j.Room() != 0 {
		t.Error(j.Room())
	}
	if s, _ := d.Read(0, 200); s != stored("ab", "", strings.Repeat("x", 95)) {
		t.Error("the bytes of the disk")
	}
	add(t, j)
}

func TestP34_1Errors(t *testing.T) {
	if j, e := journal.Open(nil); j != nil || e != api.ErrNil {
		t.Error(e)
	}
	var none *journal.Journal
	if none.Append(nil) != api.ErrNil || none.Records() != nil || none.Room() != 0 {
		t.Error("a nil journal")
	}
	d := fresh(t, 300000)
	j := open(t, d)
	if e := j.Append([]string{"a", strings.Repeat("x", 65537)}); e != api.ErrJournal || len(j.Records()) != 0 {
		t.Error(e)
	}
	add(t, j, strings.Repeat("x", 65536))
	d.Cut(1)
	if e := j.Append([]string{"a"}); e != api.ErrPower || len(j.Records()) != 1 {
		t.Error(e)
	}
	d.Crash(nil, -1)
	for _, l := range [][]string{nil, {"a"}, {strings.Repeat("x", 65537)}} {
		if e := j.Append(l); e != api.ErrJournal {
			t.Error("a broken journal", e)
		}
	}
	d.Cut(0)
	if j, e := journal.Open(d); j != nil || e != api.ErrPower {
		t.Error(e)
	}
	d.Crash(nil, -1)
	d.Write(299999, "x")
	d.Cut(1)
	if j, e := journal.Open(d); j != nil || e != api.ErrPower {
		t.Error(e)
	}
	d = fresh(t, 40)
	j = open(t, d)
	r := j.Records()
	add(t, j, "ab")
	j.Records()[0] = "x"
	if len(r) != 0 || j.Records()[0] != "ab" || j.Append([]string{""}) != api.ErrFull {
		t.Error("records share memory")
	}
}

func TestP34_2Durability(t *testing.T) {
	r := rand.New(rand.NewSource(1))
	for range 300 {
		d := fresh(t, 2000)
		j := open(t, d)
		var acknowledged, next []string
		for range 30 {
			if r.Intn(3) == 0 {
				d.Cut(1 + r.Intn(4))
			}
			l := group(r)
			e := j.Append(l)
			if e == api.OK {
				acknowledged = append(acknowledged, l...)
			}
			next = slices.Concat(acknowledged, l)
			if e == api.OK && r.Intn(5) > 0 || e == api.ErrFull {
				continue
			}
			var keep []int
			for i := range d.Pending() {
				if r.Intn(2) == 0 {
					keep = append(keep, i)
				}
			}
			d.Crash(keep, r.Intn(60)-1)
			for range r.Intn(2) { // another failure while the disk is cleaned
				d.Cut(1)
				journal.Open(d)
				d.Crash([]int{0}, r.Intn(100)-1)
			}
			j = open(t, d)
			if got := j.Records(); e == api.OK && !slices.Equal(got, acknowledged) || !slices.Equal(got, acknowledged) && !slices.Equal(got, next) {
				t.Fatal(got, acknowledged, l)
			}
			acknowledged = j.Records()
		}
	}
}

func TestP34_3Again(t *testing.T) {
	r := rand.New(rand.NewSource(2))
	for range 100 {
		d := fresh(t, 1000)
		j := open(t, d)
		for range 4 {
			j.Append(group(r))
		}
		k := open(t, d)
		if !slices.Equal(j.Records(), k.Records()) || j.Room() != k.Room() || d.Pending() != 0 {
			t.Fatal("another journal")
		}
		if s, _ := d.Read(0, 1000-j.Room()); s != stored(j.Records()...) {
			t.Fatal("stored in another way")
		}
		b := make([]byte, r.Intn(200))
		r.Read(b)
		d = fresh(t, 200)
		d.Write(0, string(b))
		if j, e := journal.Open(d); (j == nil) != (e != api.OK) || e != api.OK && e != api.ErrDamaged {
			t.Fatal(e)
		}
	}
	d := fresh(t, 100)
	d.Write(0, stored("a")+"\x00xyz")
	j := open(t, d)
	if s, _ := d.Read(0, 100); !slices.Equal(j.Records(), []string{"a"}) || d.Pending() != 0 || s != stored("a")+strings.Repeat("\x00", j.Room()) {
		t.Error("bytes after the end")
	}
}

func TestP34_4Changes(t *testing.T) {
	good := stored("first", "", "third record")
	for i := range len(good) {
		if i == 1 || i == 1+1+5+32+1 || i == 1+1+5+32+1+1+32+1 {
			continue // a length
		}
		for _, x := range []byte{0, 1, good[i] ^ 1, good[i] ^ 0xff} {
			if x == good[i] {
				continue
			}
			d := fresh(t, 200)
			d.Write(0, good)
			d.Write(i, string([]byte{x}))
			j, e := journal.Open(d)
			if e == api.OK && x == 0 && len(j.Records()) < 3 {
				continue
			}
			if e != api.ErrDamaged || j != nil {
				t.Fatal(i, x, e)
			}
		}
	}
	for i, s := range []string{"\x02", "\x01", "\x01\x80\x00", stored("a") + "\x03", stored("a")[:30], "\x01\x82\x80\x08"} {
		d := fresh(t, 70)
		d.Write(0, s)
		if j, e := journal.Open(d); j != nil || e != api.ErrDamaged {
			t.Error(i, e)
		}
	}
}

func TestP34_5Room(t *testing.T) {
	r := rand.New(rand.NewSource(3))
	d := fresh(t, 5000)
	j := open(t, d)
	for range 60 {
		l := group(r)
		bytes, before := 0, j.Room()
		for _, s := range l {
			p, _ := wire.PutString(s)
			bytes += 33 + len(p)
		}
		records := j.Records()
		e := j.Append(l)
		if e == api.OK && j.Room() != before-bytes || e != api.OK && (e != api.ErrFull || bytes <= before || j.Room() != before || !slices.Equal(j.Records(), records) || d.Pending() != 0) {
			t.Fatal(e, before, bytes, j.Room())
		}
	}
}
