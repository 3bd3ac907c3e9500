package sha_test

import (
	"bytes"
	"crypto/sha512"
	"encoding/hex"
	"math/rand"
	"testing"

	"rhizome/sha"
)

func TestSum(t *testing.T) { // P8.1
	const abc = "cb00753f45a35e8bb5a03d699ac65007272c32ab0eded1631a8b605a43ff5bed8086072ba1e7cc2358baeca134c825a7"
	if s := hex.EncodeToString(sha.Sum([]byte("abc"))); s != abc {
		t.Error(s)
	}
	if s := hex.EncodeToString(sha.Sum([]byte("a"), nil, []byte("bc"), []byte{})); s != abc {
		t.Error(s)
	}
	r := rand.New(rand.NewSource(8))
	b := make([]byte, 700)
	r.Read(b)
	for n := range b {
		want := sha512.Sum384(b[:n])
		if s := sha.Sum(b[:n]); !bytes.Equal(s, want[:]) {
			t.Fatalf("of %d bytes: %x", n, s)
		}
	}
	b = make([]byte, 1<<20)
	want := sha512.Sum384(b)
	if s := sha.Sum(b); !bytes.Equal(s, want[:]) {
		t.Errorf("of 2^20 bytes: %x", s)
	}
	want = sha512.Sum384(nil)
	if s := sha.Sum(); !bytes.Equal(s, want[:]) || !bytes.Equal(sha.New().Sum(), s) {
		t.Errorf("of nothing: %x", s)
	}
}

func TestPiecesDoNotCount(t *testing.T) { // P8.1, P8.3
	r := rand.New(rand.NewSource(9))
	for range 200 {
		b := make([]byte, r.Intn(600))
		r.Read(b)
		s := sha.New()
		for rest, had := b, 0; len(rest) > 0; {
			n := 1 + r.Intn(len(rest))
			m := r.Intn(n + 1)
			s.Write(rest[:m], nil, rest[m:n])
			rest, had = rest[n:], had+n
			want := sha512.Sum384(b[:had])
			if s.Len() != had || !bytes.Equal(s.Sum(), want[:]) || !bytes.Equal(s.Sum(), want[:]) {
				t.Fatalf("%d of %d", had, len(b))
			}
		}
		s.Write()
		if s.Len() != len(b) || !bytes.Equal(s.Sum(), sha.Sum(b)) {
			t.Fatalf("%d", len(b))
		}
	}
}

func TestCopyGoesItsOwnWay(t *testing.T) { // P8.1, P8.2
	b := []byte("begun")
	s := sha.New()
	s.Write(b)
	b[0] = '!'
	c := s.Copy()
	c.Write([]byte(", copied"))
	s.Write([]byte(", kept"))
	if !bytes.Equal(s.Sum(), sha.Sum([]byte("begun, kept"))) || !bytes.Equal(c.Sum(), sha.Sum([]byte("begun, copied"))) || s.Len() != 11 || c.Len() != 13 {
		t.Error("they are mixed")
	}
	x := s.Sum()
	_ = append(x, "more"...)
	x[0]++
	if !bytes.Equal(s.Sum(), sha.Sum([]byte("begun, kept"))) || len(x) != 48 {
		t.Error("a sum that was handed out counts")
	}
}
