package table_test

import (
	"math"
	"slices"
	"testing"

	"rhizome/api"
	"rhizome/table"
	"rhizome/wire"
)

const com = "\x03com\x00"

var q = api.Question{Name: com, Type: api.A, Class: api.IN}

func made(t *testing.T, seed, most int) *table.Table {
	b, e := table.New(seed, most)
	if e != api.OK {
		t.Fatal(e)
	}
	return b
}

func opened(t *testing.T, b *table.Table, now, job int, to string) table.Wait {
	w, e := b.Open(now, job, to, false, q)
	if e != api.OK {
		t.Fatal(e)
	}
	return w
}

func answer(w table.Wait) wire.Message {
	m := wire.Ask(w.ID, w.Question)
	m.QR = true
	return m
}

func TestNew(t *testing.T) { // P20.1
	for i, c := range []struct {
		seed, most int
		e          api.Errno
	}{
		{0, 1, api.OK}, {math.MaxInt, 1000, api.OK}, {-1, 5, api.ErrRange}, {math.MinInt, 5, api.ErrRange}, {0, 0, api.ErrRange}, {0, -1, api.ErrRange}, {0, 1001, api.ErrRange}, {0, math.MaxInt, api.ErrRange},
	} {
		b, e := table.New(c.seed, c.most)
		if e != c.e || (b == nil) != (e != api.OK) || b != nil && (b.Len() != 0 || len(b.Waits()) != 0) {
			t.Errorf("case %d: %d", i, e)
		}
	}
}

func TestOpenDraws(t *testing.T) { // P20.2
	for _, seed := range []int{0, 5, 1<<32 + 5, math.MaxInt} {
		b, x := made(t, seed, 1000), seed%(1<<32)
		draw := func() int {
			x = (x*69069 + 1) % (1 << 32)
			return x / 65536
		}
		for i := range 300 {
			if i%50 == 9 {
				if w, e := b.Open(-1, 1, "s", true, q); w != (table.Wait{}) || e != api.ErrRange {
					t.Fatalf("%v, %d", w, e)
				}
				if w, e := b.Open(api.MaxTime+1, 1, "s", true, q); w != (table.Wait{}) || e != api.ErrRange {
					t.Fatalf("%v, %d", w, e)
				}
			}
			w, e := b.Open(i, i+1, "s", i%2 == 0, q)
			want := table.Wait{Mark: table.Mark{ID: draw(), Port: 1024 + draw()%64512, To: "s", TCP: i%2 == 0}, Question: q, Job: i + 1, Until: i + 3}
			if w != want || e != api.OK || b.Len() != i+1 {
				t.Fatalf("seed %d, %d: %v, not %v", seed, i, w, want)
			}
		}
	}
	if w := opened(t, made(t, 0, 5), 0, 1, "s"); w.ID != 0 || w.Port != 1025 {
		t.Errorf("the example: %v", w)
	}
	b := made(t, 0, 2)
	opened(t, b, 0, 1, "s")
	last := opened(t, b, api.MaxTime, 1, "s")
	for _, now := range []int{0, -1, api.MaxTime + 1} {
		if w, e := b.Open(now, 1, "s", false, q); w != (table.Wait{}) || e != api.ErrFull || b.Len() != 2 {
			t.Errorf("%v, %d", w, e)
		}
	}
	b.Match(last.Mark, answer(last))
	other := made(t, 0, 5)
	opened(t, other, 0, 1, "s")
	opened(t, other, 0, 1, "s")
	if w, o := opened(t, b, 0, 1, "s"), opened(t, other, 0, 1, "s"); w != o {
		t.Errorf("a draw of one that was full: %v, %v", w, o)
	}
}

// again lets one question stay out while others come and go, until the draws tell its ID and port again.
func again(t *testing.T, seed, behind int) (*table.Table, table.Wait) {
	b := made(t, seed, 9)
	w := opened(t, b, 0, 1, "s")
	for range behind - 1 {
		opened(t, b, 0, 2, "s")
		b.Drop(2)
	}
	return b, w
}

func TestOpenGoesOn(t *testing.T) { // P20.2
	// The seeds are searched for: of the first, the 12066th question behind has the ID and port of the first one.
	for i, c := range []struct {
		seed, behind, id, next int
		to                     string
		tcp                    bool
	}{{3671575519, 12066, 7, 8, "s", false}, {3671575519, 12066, 7, 7, "s", true}, {3671575519, 12066, 7, 7, "r", false}, {894637167, 1206628, 65535, 0, "s", false}} {
		b, w := again(t, c.seed, c.behind)
		x, e := b.Open(0, 1, c.to, c.tcp, q)
		if e != api.OK || w.ID != c.id || x.ID != c.next || x.Port != w.Port {
			t.Errorf("case %d: %v behind %v", i, x, w)
		}
	}
	b, w := again(t, 3671575519, 12066)
	b.Drop(1)
	if x := opened(t, b, 0, 1, "s"); x.Mark != w.Mark {
		t.Errorf("one that is gone counts: %v", x)
	}
}

func TestMatch(t *testing.T) { // P20.2, P20.5
	b := made(t, 7, 9)
	v, w := opened(t, b, 0, 1, "s"), opened(t, b, 0, 2, "s")
	for i, c := range []struct {
		k table.Mark
		f func(m *wire.Message)
	}{
		{table.Mark{w.ID + 1, w.Port, "s", false}, func(m *wire.Message) { m.ID++ }}, {table.Mark{w.ID, w.Port + 1, "s", false}, nil}, {table.Mark{w.ID, w.Port, "r", false}, nil}, {table.Mark{w.ID, w.Port, "s", true}, nil}, {w.Mark, func(m *wire.Message) { m.QR = false }},
		{w.Mark, func(m *wire.Message) { m.ID = v.ID }}, {w.Mark, func(m *wire.Message) { m.Opcode = 2 }}, {w.Mark, func(m *wire.Message) { m.Q = nil }}, {w.Mark, func(m *wire.Message) { m.Q = append(m.Q, q) }}, {w.Mark, func(m *wire.Message) { m.Q[0].Name = "\x00" }},
		{w.Mark, func(m *wire.Message) { m.Q[0].Type = api.NS }}, {w.Mark, func(m *wire.Message) { m.Q[0].Class = 3 }}, {table.Mark{}, nil},
	} {
		m := answer(w)
		if c.f != nil {
			c.f(&m)
		}
		if x, ok := b.Match(c.k, m); ok || x != (table.Wait{}) || b.Len() != 2 {
			t.Errorf("case %d: %v", i, x)
		}
	}
	m := answer(w)
	m.Rcode, m.TC = 5, true
	if x, ok := b.Match(w.Mark, m); !ok || x != w || !slices.Equal(b.Waits(), []table.Wait{v}) {
		t.Errorf("%v", x)
	}
	if x, ok := b.Match(w.Mark, m); ok || x != (table.Wait{}) {
		t.Errorf("twice: %v", x)
	}
	if x, ok := b.Match(v.Mark, answer(v)); !ok || x != v || b.Len() != 0 {
		t.Errorf("the first one: %v", x)
	}
}

func TestExpireAndDrop(t *testing.T) { // P20.3
	b := made(t, 7, 9)
	var l []table.Wait
	for i, now := range []int{5, 3, 4, 3, 9} {
		l = append(l, opened(t, b, now, i%3, "s"))
	}
	if !slices.Equal(b.Waits(), l) || b.Len() != 5 {
		t.Errorf("%v", b.Waits())
	}
	for _, now := range []int{-1, 0, 5, math.MinInt} {
		if g := b.Expire(now); len(g) != 0 || b.Len() != 5 {
			t.Errorf("%d: %v", now, g)
		}
	}
	if g := b.Expire(7); !slices.Equal(g, []table.Wait{l[1], l[2], l[3]}) || !slices.Equal(b.Waits(), []table.Wait{l[0], l[4]}) {
		t.Errorf("%v", g)
	}
	if g := b.Expire(math.MaxInt); !slices.Equal(g, []table.Wait{l[0], l[4]}) || b.Len() != 0 {
		t.Errorf("%v", g)
	}
	b = made(t, 7, 9)
	l = nil
	for i := range 6 {
		l = append(l, opened(t, b, 0, i%3, "s"))
	}
	if b.Drop() != 0 || b.Drop(7, -1) != 0 || b.Len() != 6 {
		t.Error("Drop of none")
	}
	if n := b.Drop(2, 1, 2); n != 4 || !slices.Equal(b.Waits(), []table.Wait{l[0], l[3]}) {
		t.Errorf("%d, %v", n, b.Waits())
	}
}

func TestSame(t *testing.T) { // P20.3
	k := table.Mark{1, 2, "s", true}
	for _, o := range []table.Mark{{}, {2, 2, "s", true}, {1, 3, "s", true}, {1, 2, "r", true}, {1, 2, "s", false}} {
		if k.Same(o) || o.Same(k) || (table.Wait{Mark: k}).Same(o) {
			t.Errorf("%v", o)
		}
	}
	w := table.Wait{Mark: k, Question: q}
	if !k.Same(k) || !w.Same(k) || w.Name != com || w.Type != api.A || w.Class != api.IN {
		t.Error("Same")
	}
}

func TestListsAreNew(t *testing.T) { // P20.4
	b := made(t, 7, 9)
	w := opened(t, b, 0, 1, "s")
	l := b.Waits()
	l[0].Job = 9
	_ = append(l, table.Wait{}, table.Wait{})
	jobs := []int{5, 1}
	b.Drop(jobs[:1]...)
	if !slices.Equal(b.Waits(), []table.Wait{w}) || jobs[1] != 1 {
		t.Errorf("%v", b.Waits())
	}
}
