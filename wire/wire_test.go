package wire_test

import (
	"hash/crc32"
	"math/rand"
	"strings"
	"testing"

	"newswire/api"
	"newswire/wire"
)

func TestP1_1Integers(t *testing.T) {
	for _, c := range []struct {
		n int
		s string
	}{{0, "\x00"}, {1, "\x02"}, {-1, "\x01"}, {-64, "\x7f"}, {64, "\x80\x01"}, {150, "\xac\x02"}, {api.MaxInt, "\xfe\xff\xff\xff\xff\xff\xff\xff\x7f"}, {-api.MaxInt, "\xfd\xff\xff\xff\xff\xff\xff\xff\x7f"}} {
		if s, e := wire.PutInt(c.n); s != c.s || e != api.OK {
			t.Errorf("PutInt(%d) = %q, %d", c.n, s, e)
		}
		if n, next, e := wire.Int("xy"+c.s+"z", 2); n != c.n || next != 2+len(c.s) || e != api.OK {
			t.Errorf("Int of %q = %d, %d, %d", c.s, n, next, e)
		}
	}
	for _, n := range []int{api.MaxInt + 1, -api.MaxInt - 1, -1 << 63, 1<<63 - 1} {
		if s, e := wire.PutInt(n); s != "" || e != api.ErrWire {
			t.Errorf("PutInt(%d) = %q, %d", n, s, e)
		}
	}
}

func TestP1_1IntegerErrors(t *testing.T) {
	for _, c := range []struct {
		s  string
		at int
		e  api.Errno
	}{{"a", -1, api.ErrArg}, {"a", 2, api.ErrArg}, {"", 1, api.ErrArg}, {"a", 1, api.ErrWire}, {"\x80", 0, api.ErrWire}, {"\x80\x00", 0, api.ErrWire}, {"\xff\xff\xff\xff\xff\xff\xff\xff\x7f", 0, api.ErrWire}, {"\xfe\xff\xff\xff\xff\xff\xff\xff\xff\x01", 0, api.ErrWire}} {
		if n, next, e := wire.Int(c.s, c.at); n != 0 || next != 0 || e != c.e {
			t.Errorf("Int(%q, %d) = %d, %d, %d", c.s, c.at, n, next, e)
		}
	}
}

func TestP1_2Strings(t *testing.T) {
	long := strings.Repeat("x", api.MaxString)
	for _, s := range []string{"", "ab", "\x00\xff", long} {
		p, e := wire.PutString(s)
		if e != api.OK {
			t.Fatal(e)
		}
		if u, next, e := wire.String("q"+p+"r", 1); u != s || next != 1+len(p) || e != api.OK {
			t.Errorf("String of %.10q = %.10q, %d, %d", s, u, next, e)
		}
	}
	if p, e := wire.PutString(long + "x"); p != "" || e != api.ErrWire {
		t.Error("too long a string", e)
	}
	for _, c := range []struct {
		s  string
		at int
		e  api.Errno
	}{{"\x04a", 0, api.ErrWire}, {"\x01a", 0, api.ErrWire}, {"\x82\x80\x08" + long + "x", 0, api.ErrWire}, {"a", 2, api.ErrArg}, {"", -1, api.ErrArg}, {"", 0, api.ErrWire}} {
		if s, next, e := wire.String(c.s, c.at); s != "" || next != 0 || e != c.e {
			t.Errorf("String(%.10q, %d) = %.10q, %d, %d", c.s, c.at, s, next, e)
		}
	}
}

func TestP1_3Sum(t *testing.T) {
	if n := wire.Sum("123456789"); n != 3808858755 {
		t.Error(n)
	}
	r := rand.New(rand.NewSource(1))
	for range 100 {
		b := make([]byte, r.Intn(50))
		r.Read(b)
		if n := wire.Sum(string(b)); n != int(crc32.Checksum(b, crc32.MakeTable(crc32.Castagnoli))) {
			t.Errorf("Sum(%q) = %d", b, n)
		}
	}
}

func TestP1_4Accepted(t *testing.T) {
	r := rand.New(rand.NewSource(2))
	for range 20000 {
		b := make([]byte, 1+r.Intn(11))
		r.Read(b)
		if r.Intn(2) == 0 {
			for i := range b[:len(b)-1] {
				b[i] |= 128
			}
		}
		if n, next, e := wire.Int(string(b), 0); e == api.OK {
			if p, e := wire.PutInt(n); e != api.OK || p != string(b[:next]) {
				t.Fatalf("Int accepts %q as %d, which is %q", b[:next], n, p)
			}
		}
		if s, next, e := wire.String(string(b), 0); e == api.OK {
			if p, _ := wire.PutString(s); p != string(b[:next]) {
				t.Fatalf("String accepts %q", b[:next])
			}
		}
	}
}

func TestP1_4Concatenation(t *testing.T) {
	r := rand.New(rand.NewSource(3))
	for range 500 {
		var l []int
		s := ""
		for range r.Intn(10) {
			n := int(r.Uint64()>>1>>r.Intn(63)) / 2
			if r.Intn(2) == 0 {
				n = -n
			}
			p, _ := wire.PutInt(n)
			l, s = append(l, n), s+p
		}
		at := 0
		for _, n := range l {
			m, next, e := wire.Int(s, at)
			if m != n || e != api.OK {
				t.Fatalf("%d at %d: %d, %d", n, at, m, e)
			}
			at = next
		}
		if at != len(s) {
			t.Fatal("bytes are left")
		}
	}
}

func TestP1_4Bursts(t *testing.T) {
	r := rand.New(rand.NewSource(4))
	for range 2000 {
		b := make([]byte, 4+r.Intn(20))
		r.Read(b)
		before := wire.Sum(string(b))
		from, mask := r.Intn(8*len(b)-31), r.Uint32()|1
		for i := range 32 {
			b[(from+i)/8] ^= byte(mask>>i&1) << ((from + i) % 8)
		}
		if wire.Sum(string(b)) == before {
			t.Fatal("a change of 32 bits is not seen")
		}
	}
}

func TestP1_2AtTheEnd(t *testing.T) {
	if s, next, e := wire.String("x\x04ab", 1); s != "ab" || next != 4 || e != api.OK {
		t.Error(s, next, e)
	}
	if s, next, e := wire.String("\x00", 0); s != "" || next != 1 || e != api.OK {
		t.Error(s, next, e)
	}
}
