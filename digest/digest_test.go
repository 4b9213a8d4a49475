package digest_test

import (
	"crypto/sha256"
	"encoding/hex"
	"math/bits"
	"slices"
	"strconv"
	"strings"
	"testing"

	"newswire/api"
	"newswire/digest"
)

func list(n int) []string {
	var l []string
	for i := range n {
		l = append(l, "entry "+strconv.Itoa(i))
	}
	return l
}

func sha(s string) string {
	d := sha256.Sum256([]byte(s))
	return string(d[:])
}

func TestP2_1Sum(t *testing.T) {
	if s := hex.EncodeToString([]byte(digest.Sum("abc"))); s != "ba7816bf8f01cfea414140de5dae2223b00361a396177a9cb410ff61f20015ad" {
		t.Error(s)
	}
	for n := range 300 {
		if s := strings.Repeat("q", n); digest.Sum(s) != sha(s) {
			t.Errorf("Sum of %d bytes", n)
		}
	}
	if digest.Chain("h", "r") != sha("\x02hr") || digest.Leaf("s") != sha("\x00s") || digest.Node("a", "b") != sha("\x01ab") {
		t.Error("Chain, Leaf or Node")
	}
}

// root is the definition, word by word.
func root(l []string) string {
	if len(l) == 0 {
		return sha("")
	}
	if len(l) == 1 {
		return sha("\x00" + l[0])
	}
	k := 1
	for 2*k < len(l) {
		k *= 2
	}
	return sha("\x01" + root(l[:k]) + root(l[k:]))
}

func TestP2_1Root(t *testing.T) {
	for n := range 40 {
		if l := list(n); digest.Root(l) != root(l) {
			t.Errorf("Root of %d entries", n)
		}
	}
}

func TestP2_1Examples(t *testing.T) {
	l := list(3)
	if p, e := digest.Proof(l, 2); e != api.OK || !slices.Equal(p, []string{digest.Node(digest.Leaf(l[0]), digest.Leaf(l[1]))}) {
		t.Error("Proof", e)
	}
	if p, e := digest.Extension(l, 1); e != api.OK || !slices.Equal(p, []string{digest.Leaf(l[1]), digest.Leaf(l[2])}) {
		t.Error("Extension", e)
	}
	for _, i := range []int{-1, 3} {
		if p, e := digest.Proof(l, i); p != nil || e != api.ErrArg {
			t.Error("Proof of", i, e)
		}
	}
	for _, m := range []int{-1, 4} {
		if p, e := digest.Extension(l, m); p != nil || e != api.ErrArg {
			t.Error("Extension of", m, e)
		}
	}
}

func TestP2_2Proofs(t *testing.T) {
	for n := 1; n < 35; n++ {
		l := list(n)
		for i := range n {
			p, e := digest.Proof(l, i)
			if e != api.OK || !digest.Verify(digest.Root(l), n, i, l[i], p) || len(p) > bits.Len(uint(n)) {
				t.Fatalf("proof of %d of %d", i, n)
			}
		}
	}
}

func TestP2_2Extensions(t *testing.T) {
	for n := range 35 {
		l := list(n)
		for m := range n + 1 {
			p, e := digest.Extension(l, m)
			if e != api.OK || !digest.VerifyExtension(digest.Root(l[:m]), m, digest.Root(l), n, p) || len(p) > 2*bits.Len(uint(n)) {
				t.Fatalf("extension of %d to %d", m, n)
			}
		}
	}
}

func TestP2_3Binding(t *testing.T) {
	for n := 1; n < 20; n++ {
		l := list(n)
		r := digest.Root(l)
		for i := range n {
			p, _ := digest.Proof(l, i)
			if digest.Verify(r, n, i, "other", p) || digest.Verify(r, n, n, l[i], p) || digest.Verify(r, n, -1, l[i], p) || digest.Verify(r[1:], n, i, l[i], p) {
				t.Fatal("another entry, index or root is accepted")
			}
			if digest.Verify(r, n, i, l[i], append(slices.Clone(p), r)) || len(p) > 0 && digest.Verify(r, n, i, l[i], p[1:]) {
				t.Fatal("a longer or shorter proof is accepted")
			}
			for j := range p {
				q := slices.Clone(p)
				q[j] = digest.Sum(q[j])
				if digest.Verify(r, n, i, l[i], q) {
					t.Fatal("another proof is accepted")
				}
			}
		}
	}
	if digest.Verify(digest.Node("x", digest.Leaf("s")), 2, 1, "s", []string{"x"}) {
		t.Error("a proof that has no digests is accepted")
	}
	if digest.Verify("", 0, 0, "", nil) || digest.Verify(digest.Leaf("s"), 1<<62, 0, "s", nil) {
		t.Error("no proof is accepted")
	}
	if digest.Chain(digest.Chain("", "a"), "b") == digest.Chain(digest.Chain("", "b"), "a") {
		t.Error("heads of different lists are the same")
	}
}

func TestP2_4Extensions(t *testing.T) {
	for n := 1; n < 20; n++ {
		l := list(n)
		r := digest.Root(l)
		for m := range n + 1 {
			p, _ := digest.Extension(l, m)
			old := digest.Root(l[:m])
			if digest.VerifyExtension(digest.Sum(old), m, r, n, p) || digest.VerifyExtension(old[1:], m, r, n, p) || digest.VerifyExtension(old, m, r, m-1, p) {
				t.Fatal("another old root is accepted")
			}
			if digest.VerifyExtension(old, m, r, n, append(slices.Clone(p), r)) || digest.VerifyExtension(old, m, r, n, append([]string{r}, p...)) {
				t.Fatal("a longer proof is accepted")
			}
			if len(p) > 0 && (digest.VerifyExtension(old, m, r, n, p[1:]) || digest.VerifyExtension(old, m, r, n, p[:len(p)-1])) {
				t.Fatal("a shorter proof is accepted")
			}
			if m > 0 && m < n && digest.VerifyExtension(old, m, digest.Sum(r), n, p) {
				t.Fatal("another root is accepted")
			}
		}
	}
	none := digest.Sum("")
	if !digest.VerifyExtension(none, 0, digest.Sum("x"), 7, nil) || digest.VerifyExtension(none, 0, "x", 7, nil) || digest.VerifyExtension(none, -1, none, 7, nil) {
		t.Error("extensions of nothing")
	}
}

func TestP2_4NoProof(t *testing.T) {
	for n := 2; n < 12; n++ {
		for m := 1; m < n; m++ {
			l := list(n)
			if digest.VerifyExtension(digest.Root(l[:m]), m, digest.Root(l), n, nil) {
				t.Error(m, n)
			}
		}
	}
}
