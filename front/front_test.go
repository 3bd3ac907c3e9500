package front_test

import (
	"math"
	"slices"
	"strings"
	"testing"

	"rhizome/api"
	"rhizome/edns"
	"rhizome/front"
	"rhizome/sets"
	"rhizome/wire"
)

const (
	www  = "\x03www\x03com\x00"
	root = "\x00"
)

var q = api.Question{Name: www, Type: api.A, Class: api.IN}

// asked is the bytes of a question with the ID 7 and RD, changed.
func asked(t *testing.T, f func(m *wire.Message)) []byte {
	m := wire.Ask(7, q)
	m.RD = true
	if f != nil {
		f(&m)
	}
	b, e := wire.Encode(m, api.MaxMsg)
	if e != api.OK {
		t.Fatal(e)
	}
	return b
}

func opt(t *testing.T, l ...edns.Opt) func(m *wire.Message) {
	return func(m *wire.Message) {
		x, e := edns.With(*m, l...)
		if e != api.OK {
			t.Fatal(e)
		}
		*m = x
	}
}

// answer is what is told, with the ID 7 and RD.
func answer(t *testing.T, opcode, rcode int, l []api.Question, more ...edns.Opt) string {
	m := wire.Message{Header: wire.Header{ID: 7, Opcode: opcode, Rcode: rcode, QR: true, RD: true, RA: true}, Q: l}
	m, _ = edns.With(m, more...)
	b, e := wire.Encode(m, api.MaxMsg)
	if e != api.OK {
		t.Fatal(e)
	}
	return string(b)
}

func TestReadTells(t *testing.T) { // P22.1
	a := api.RR{Name: www, Type: api.A, Class: 1, TTL: 5, Data: "1234"}
	own := []api.Question{q}
	of := func(kind, class int) func(m *wire.Message) {
		return func(m *wire.Message) { m.Q[0].Type, m.Q[0].Class = kind, class }
	}
	kind := func(kind, class int) []api.Question { return []api.Question{{Name: www, Type: kind, Class: class}} }
	good := asked(t, nil)
	short := slices.Clone(good[:20])
	short[2] |= 5 << 3
	for i, c := range []struct {
		b    []byte
		want string
	}{
		{nil, ""}, {good[:11], ""}, {asked(t, func(m *wire.Message) { m.QR = true }), ""}, {append(asked(t, func(m *wire.Message) { m.QR = true }), 0), ""},
		{good[:12], answer(t, 0, api.FormErr, nil)}, {good[:20], answer(t, 0, api.FormErr, nil)}, {short, answer(t, 5, api.FormErr, nil)}, {append(slices.Clone(good), 0), answer(t, 0, api.FormErr, nil)},
		{asked(t, func(m *wire.Message) { m.Opcode = 4 }), answer(t, 4, api.NotImp, nil)}, {asked(t, func(m *wire.Message) { m.Opcode = 15; m.Q = nil }), answer(t, 15, api.NotImp, nil)},
		{asked(t, func(m *wire.Message) { m.Q = nil }), answer(t, 0, api.FormErr, nil)}, {asked(t, func(m *wire.Message) { m.Q = append(m.Q, q) }), answer(t, 0, api.FormErr, nil)}, {asked(t, func(m *wire.Message) { m.Add(1, a) }), answer(t, 0, api.FormErr, nil)},
		{asked(t, func(m *wire.Message) { m.Add(2, a) }), answer(t, 0, api.FormErr, nil)}, {asked(t, opt(t, edns.Opt{}, edns.Opt{})), answer(t, 0, api.FormErr, nil)},
		{asked(t, opt(t, edns.Opt{Version: 1})), answer(t, 0, api.NoError, own, edns.Opt{Size: 1232, Rcode: 1})}, {asked(t, func(m *wire.Message) { of(api.ANY, 3)(m); opt(t, edns.Opt{Version: 255, Do: true})(m) }), answer(t, 0, api.NoError, kind(api.ANY, 3), edns.Opt{Size: 1232, Rcode: 1})},
		{asked(t, of(api.A, 3)), answer(t, 0, api.Refused, kind(api.A, 3))}, {asked(t, of(api.A, 0)), answer(t, 0, api.Refused, kind(api.A, 0))}, {asked(t, of(0, 1)), answer(t, 0, api.Refused, kind(0, 1))}, {asked(t, of(api.AXFR, 1)), answer(t, 0, api.Refused, kind(api.AXFR, 1))},
		{asked(t, of(api.ANY, 1)), answer(t, 0, api.Refused, kind(api.ANY, 1))}, {asked(t, func(m *wire.Message) { of(api.OPT, 1)(m); opt(t, edns.Opt{Size: 900})(m) }), answer(t, 0, api.Refused, kind(api.OPT, 1))},
	} {
		for _, tcp := range []bool{false, true} {
			if x, b, ok := front.Read("f", tcp, c.b); ok || x != (front.Client{}) || string(b) != c.want {
				t.Errorf("case %d: %v, %x", i, x, b)
			}
		}
	}
	noRD := slices.Clone(good[:12])
	noRD[2] = 0
	if _, b, _ := front.Read("f", false, noRD); len(b) != 12 || b[2] != 0x80 || b[3] != 0x81 {
		t.Errorf("%x", b)
	}
}

func TestReadTakes(t *testing.T) { // P22.1
	a := api.RR{Name: www, Type: api.A, Class: 1, TTL: 5, Data: "1234"}
	with := func(size int, has, tcp bool) front.Client {
		return front.Client{Question: q, From: "f", ID: 7, Size: size, RD: true, Edns: has, TCP: tcp}
	}
	for i, c := range []struct {
		f    func(m *wire.Message)
		tcp  bool
		want front.Client
	}{
		{nil, false, with(512, false, false)}, {nil, true, with(api.MaxMsg, false, true)}, {opt(t, edns.Opt{Size: 900}), false, with(900, true, false)}, {opt(t, edns.Opt{Size: 100, Do: true}), false, with(512, true, false)}, {opt(t, edns.Opt{Size: 4096, Rcode: 3}), false, with(1232, true, false)},
		{opt(t, edns.Opt{Size: 900}), true, with(api.MaxMsg, true, true)}, {func(m *wire.Message) { m.Add(3, a); m.TC, m.AA, m.RA, m.Rcode = true, true, true, 5 }, false, with(512, false, false)},
	} {
		if x, b, ok := front.Read("f", c.tcp, asked(t, c.f)); !ok || x != c.want || len(b) != 0 {
			t.Errorf("case %d: %v, %x", i, x, b)
		}
	}
	b := []byte("\x00\x07\x00\x00\x00\x01\x00\x00\x00\x00\x00\x00\x03WwW\x03cOm\x00\xff\xff\x00\x01")
	if x, _, ok := front.Read("", false, b); !ok || x != (front.Client{Question: api.Question{Name: www, Type: 65535, Class: 1}, ID: 7, Size: 512}) {
		t.Errorf("%v", x)
	}
}

func TestReply(t *testing.T) { // P22.2, P22.4
	set := sets.Set{Key: sets.Key{Name: www, Type: api.A, Class: 1}, TTL: 5, Data: []string{"1234", "5678"}}
	big := sets.Set{Key: sets.Key{Name: www, Type: 300, Class: 1}, TTL: 5, Data: []string{strings.Repeat("d", 470)}}
	bad := sets.Set{Key: sets.Key{Name: www, Type: api.A, Class: 1}, Data: []string{"123"}}
	for _, has := range []bool{false, true} {
		c := front.Client{Question: q, From: "f", ID: 7, Size: 512, RD: true, Edns: has}
		var l []edns.Opt
		if has {
			l = []edns.Opt{{Size: 1232}}
		}
		whole := func(rd, tc bool, rcode int, an ...api.RR) string {
			m := wire.Message{Header: wire.Header{ID: 7, Rcode: rcode, QR: true, RD: rd, RA: true, TC: tc}, Q: []api.Question{q}, An: an}
			m, _ = edns.With(m, l...)
			b, _ := wire.Encode(m, api.MaxMsg)
			return string(b)
		}
		if b := front.Reply(c, 3, set, big); string(b) != whole(true, true, 3) {
			t.Errorf("too long: %x", b)
		}
		if b := front.Reply(c, 3, set); string(b) != whole(true, false, 3, set.Records()...) {
			t.Errorf("%x", b)
		}
		if b := front.Reply(c, 0, bad, set); string(b) != whole(true, true, 0) {
			t.Errorf("one that may not be: %x", b)
		}
		fits := len(whole(true, false, 0, append(set.Records(), big.Records()...)...))
		for size, want := range map[int]bool{fits: true, fits - 1: false, api.MaxMsg: true} {
			c.Size = size
			b := front.Reply(c, 0, set, big)
			if (string(b) == whole(true, false, 0, append(set.Records(), big.Records()...)...)) != want || len(b) > size {
				t.Errorf("size %d: %d", size, len(b))
			}
		}
		c.Size, c.RD = 512, false
		if b := front.Reply(c, 2); string(b) != whole(false, false, 2) {
			t.Errorf("%x", b)
		}
		for _, f := range []func(c *front.Client){func(c *front.Client) { c.Size = 20 }, func(c *front.Client) { c.Size = 0 }, func(c *front.Client) { c.Size = -1 }, func(c *front.Client) { c.ID = -1 }, func(c *front.Client) { c.ID = 65536 }, func(c *front.Client) { c.Name = "x" }, func(c *front.Client) { c.Type = 65536 }} {
			x := c
			f(&x)
			if b := front.Reply(x, 0, set); len(b) != 0 {
				t.Errorf("%v: %x", x, b)
			}
		}
		for _, rcode := range []int{-1, 16, math.MaxInt} {
			if b := front.Reply(c, rcode, set); len(b) != 0 {
				t.Errorf("rcode %d: %x", rcode, b)
			}
		}
	}
	if b := front.Reply(front.Client{}, 0); len(b) != 0 {
		t.Errorf("%x", b)
	}
}

func TestFail(t *testing.T) { // P22.2
	if b := front.Fail(258, 2, 5, true, q, q); string(b) != "\x01\x02\x91\x85\x00\x02\x00\x00\x00\x00\x00\x00"+www+"\x00\x01\x00\x01\xc0\x0c\x00\x01\x00\x01" {
		t.Errorf("%x", b)
	}
	if b := front.Fail(258, 0, 0, false); string(b) != "\x01\x02\x80\x80\x00\x00\x00\x00\x00\x00\x00\x00" {
		t.Errorf("%x", b)
	}
	for _, c := range [][3]int{{-1, 0, 0}, {65536, 0, 0}, {0, 16, 0}, {0, -1, 0}, {0, 0, 16}, {0, 0, math.MinInt}} {
		if b := front.Fail(c[0], c[1], c[2], true); len(b) != 0 {
			t.Errorf("%v: %x", c, b)
		}
	}
	if len(front.Fail(0, 0, 0, true, api.Question{})) != 0 || len(front.Fail(0, 0, 0, true, slices.Repeat([]api.Question{q}, 301)...)) != 0 || len(front.Fail(0, 0, 0, true, slices.Repeat([]api.Question{q}, 300)...)) == 0 {
		t.Error("questions that may not be")
	}
}

func TestListsAreNew(t *testing.T) { // P22.3
	b := asked(t, opt(t, edns.Opt{Version: 1}))
	before := slices.Clone(b)
	_, x, _ := front.Read("f", false, b)
	x[0]++
	if !slices.Equal(b, before) {
		t.Errorf("%x", b)
	}
	set := sets.Set{Key: sets.Key{Name: www, Type: api.A, Class: 1}, Data: []string{"5678", "1234"}}
	front.Reply(front.Client{Question: q, Size: 512}, 0, set)
	if set.Data[0] != "5678" {
		t.Errorf("%v", set)
	}
}
