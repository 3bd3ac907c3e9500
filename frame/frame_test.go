package frame_test

import (
	"bytes"
	"math"
	"math/rand"
	"slices"
	"strings"
	"testing"

	"rhizome/api"
	"rhizome/frame"
)

func same(l, m [][]byte) bool { return slices.EqualFunc(l, m, bytes.Equal) }

func TestPut(t *testing.T) { // P7.1
	full := bytes.Repeat([]byte{7}, 65535)
	for i, c := range []struct {
		l    [][]byte
		want string
		e    api.Errno
	}{
		{nil, "", api.OK}, {[][]byte{[]byte("ab")}, "\x00\x02ab", api.OK}, {[][]byte{nil, []byte("a"), {}}, "\x00\x00\x00\x01a\x00\x00", api.OK}, {[][]byte{full}, "\xff\xff" + string(full), api.OK},
		{[][]byte{[]byte("a"), append(full[:65535:65535], 1)}, "", api.ErrLong},
	} {
		if b, e := frame.Put(c.l...); string(b) != c.want || e != c.e {
			t.Errorf("case %d: %.40x, %d", i, b, e)
		}
	}
}

func TestTake(t *testing.T) { // P7.1
	for _, c := range []struct {
		s    string
		want []string
		end  int
	}{
		{"", nil, 0}, {"\x00", nil, 0}, {"\x00\x01", nil, 0}, {"\x00\x00", []string{""}, 2}, {"\x00\x02ab", []string{"ab"}, 4}, {"\x00\x02ab\x00", []string{"ab"}, 4}, {"\x00\x02a", nil, 0},
		{"\x00\x01a\x00\x00\x00\x02b", []string{"a", ""}, 5}, {"\x01\x00" + strings.Repeat("x", 256) + "y", []string{strings.Repeat("x", 256)}, 258}, {"\x01\x00" + strings.Repeat("x", 255), nil, 0},
	} {
		l, end := frame.Take([]byte(c.s))
		var want [][]byte
		for _, s := range c.want {
			want = append(want, []byte(s))
		}
		if !same(l, want) || end != c.end {
			t.Errorf("%q: %q, %d", c.s, l, end)
		}
	}
}

func TestFeed(t *testing.T) { // P7.2
	r := frame.NewReader(100)
	if r.Left() != 0 {
		t.Error("Left of nothing")
	}
	for i, c := range []struct {
		l    []string
		want []string
		left int
	}{
		{nil, nil, 0}, {[]string{"\x00"}, nil, 1}, {[]string{"\x02", "a"}, nil, 3}, {[]string{"", "b\x00", "\x00\x00\x01c\x00"}, []string{"ab", "", "c"}, 1}, {nil, nil, 1}, {[]string{"\x01", "d"}, []string{"d"}, 0},
	} {
		var in, want [][]byte
		for _, s := range c.l {
			in = append(in, []byte(s))
		}
		for _, s := range c.want {
			want = append(want, []byte(s))
		}
		if l, e := r.Feed(in...); !same(l, want) || e != api.OK || r.Left() != c.left {
			t.Errorf("case %d: %q, %d, %d", i, l, e, r.Left())
		}
	}
}

func TestFeedHasALimit(t *testing.T) { // P7.2
	r := frame.NewReader(5)
	if l, e := r.Feed([]byte("\x00\x01a\x00\x02")); !same(l, [][]byte{[]byte("a")}) || e != api.OK || r.Left() != 2 {
		t.Errorf("%q, %d", l, e)
	}
	if l, e := r.Feed(nil, nil); len(l) != 0 || e != api.OK || r.Left() != 2 {
		t.Errorf("%q, %d", l, e)
	}
	if l, e := r.Feed([]byte("b")); len(l) != 0 || e != api.ErrLimit || r.Left() != 0 {
		t.Errorf("%q, %d, %d", l, e, r.Left())
	}
	if l, e := r.Feed(); len(l) != 0 || e != api.ErrLimit || r.Left() != 0 {
		t.Errorf("ever: %q, %d", l, e)
	}
	r = frame.NewReader(4)
	if l, e := r.Feed([]byte("\x00\x01a"), []byte("\x00\x00")); len(l) != 0 || e != api.ErrLimit || r.Left() != 0 {
		t.Errorf("%q, %d", l, e)
	}
	for most, want := range map[int]api.Errno{0: api.OK, -1: api.ErrLimit, math.MinInt: api.ErrLimit, math.MaxInt: api.OK} {
		if l, e := frame.NewReader(most).Feed(); len(l) != 0 || e != want {
			t.Errorf("most %d: %d", most, e)
		}
	}
}

func TestPiecesDoNotCount(t *testing.T) { // P7.4
	rnd := rand.New(rand.NewSource(7))
	for range 300 {
		b := make([]byte, rnd.Intn(60))
		for i := range b {
			b[i] = byte(rnd.Intn(4) * rnd.Intn(2))
		}
		want, end := frame.Take(b)
		r := frame.NewReader(len(b))
		var got [][]byte
		for rest := b; len(rest) > 0; {
			n := 1 + rnd.Intn(len(rest))
			m := rnd.Intn(n + 1)
			l, e := r.Feed(rest[:m], rest[m:n])
			if e != api.OK {
				t.Fatal(e)
			}
			got, rest = append(got, l...), rest[n:]
		}
		if !same(got, want) || r.Left() != len(b)-end {
			t.Fatalf("%x: %x, %d", b, got, r.Left())
		}
		if back, _ := frame.Put(got...); string(back) != string(b[:end]) {
			t.Fatalf("%x: %x", b, back)
		}
	}
}

func TestListsAreNew(t *testing.T) { // P7.3
	b := []byte("\x00\x02ab\x00\x02cd\x00")
	l, _ := frame.Take(b)
	_ = append(l[0], "!!!!"...)
	l[0][0] = '!'
	if string(l[1]) != "cd" || string(b) != "\x00\x02ab\x00\x02cd\x00" {
		t.Errorf("%q, %q", l, b)
	}
	r := frame.NewReader(99)
	piece := make([]byte, 3, 9)
	copy(piece, "\x00\x02a")
	r.Feed(piece)
	piece[2] = '!'
	m, _ := r.Feed([]byte("b\x00\x01"))
	_ = append(m[0], "????"...)
	if o, _ := r.Feed([]byte("c")); string(m[0]) != "ab" || !same(o, [][]byte{[]byte("c")}) {
		t.Errorf("%q, %q", m, o)
	}
	if string(piece[:9]) != "\x00\x02!\x00\x00\x00\x00\x00\x00" {
		t.Errorf("%q", piece[:9])
	}
}
