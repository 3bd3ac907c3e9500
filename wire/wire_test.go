package wire_test

import (
	"bytes"
	"math"
	"math/rand"
	"slices"
	"strings"
	"testing"

	"rhizome/api"
	"rhizome/name"
	"rhizome/num"
	"rhizome/rdata"
	"rhizome/wire"
)

const (
	com  = "\x03com\x00"
	www  = "\x03www\x03com\x00"
	al   = "\x02al\x03com\x00"
	addr = "\x01\x02\x03\x04"
	root = "\x00"
)

func rr(n string, kind, ttl int, data string) api.RR {
	return api.RR{Name: n, Type: kind, Class: api.IN, TTL: ttl, Data: data}
}

func asked(l ...api.Question) wire.Message { return wire.Ask(7, l...) }

func TestFlags(t *testing.T) { // P5.1
	for _, c := range []struct {
		h    wire.Header
		want int
	}{
		{wire.Header{}, 0}, {wire.Header{ID: -9, QR: true}, 0x8000}, {wire.Header{Opcode: 15}, 0x7800}, {wire.Header{Opcode: 1}, 0x0800}, {wire.Header{AA: true}, 0x0400}, {wire.Header{TC: true}, 0x0200},
		{wire.Header{RD: true}, 0x0100}, {wire.Header{RA: true}, 0x0080}, {wire.Header{Rcode: 15}, 15}, {wire.Header{Opcode: 15, Rcode: 15, QR: true, AA: true, TC: true, RD: true, RA: true}, 0xff8f},
	} {
		if n, e := c.h.Flags(); n != c.want || e != api.OK {
			t.Errorf("%v: %x, %d", c.h, n, e)
		}
		if n, e := (wire.Message{Header: c.h}).Flags(); n != c.want || e != api.OK {
			t.Errorf("%v: %x, %d", c.h, n, e)
		}
		h := c.h
		h.ID = 3
		for _, more := range []int{0, 0x10, 0x20, 0x40, 0x70} {
			if g, e := wire.Unflag(3, c.want|more); g != h || e != api.OK {
				t.Errorf("Unflag(%x): %v, %d", c.want|more, g, e)
			}
		}
	}
	for _, h := range []wire.Header{{Opcode: 16}, {Opcode: -1}, {Rcode: 16}, {Rcode: -1}, {Rcode: math.MinInt}} {
		if n, e := h.Flags(); n != 0 || e != api.ErrRange {
			t.Errorf("%v: %x, %d", h, n, e)
		}
	}
	for _, c := range [][2]int{{-1, 0}, {65536, 0}, {0, -1}, {0, 65536}, {math.MaxInt, math.MinInt}} {
		if h, e := wire.Unflag(c[0], c[1]); h != (wire.Header{}) || e != api.ErrRange {
			t.Errorf("%v: %v, %d", c, h, e)
		}
	}
	if h, e := wire.Unflag(65535, 65535); h.ID != 65535 || !h.RA || e != api.OK {
		t.Errorf("%v, %d", h, e)
	}
}

func TestMay(t *testing.T) { // P5.1
	good := rr(www, api.A, 5, addr)
	opt := api.RR{Name: root, Type: api.OPT, Class: 65535, TTL: 1<<32 - 1, Data: strings.Repeat("o", 1000)}
	with := func(f func(m *wire.Message)) wire.Message {
		m := wire.Message{Q: []api.Question{{Name: www, Type: 65535, Class: 65535}}, An: []api.RR{good}, Ns: []api.RR{good}, Ar: []api.RR{good, opt}}
		f(&m)
		return m
	}
	for i, c := range []struct {
		f    func(m *wire.Message)
		want bool
	}{
		{func(m *wire.Message) {}, true}, {func(m *wire.Message) { m.ID = 65535; m.Opcode = 15; m.Rcode = 15 }, true}, {func(m *wire.Message) { m.ID = 65536 }, false}, {func(m *wire.Message) { m.ID = -1 }, false},
		{func(m *wire.Message) { m.Opcode = 16 }, false}, {func(m *wire.Message) { m.Rcode = -1 }, false}, {func(m *wire.Message) { m.Q[0].Name = "x" }, false}, {func(m *wire.Message) { m.Q[0].Type = 65536 }, false},
		{func(m *wire.Message) { m.Q[0].Class = -1 }, false}, {func(m *wire.Message) { m.An[0].TTL = -1 }, false}, {func(m *wire.Message) { m.Ns[0].Data = "123" }, false}, {func(m *wire.Message) { m.Ar[0].Name = "" }, false},
		{func(m *wire.Message) { m.An[0] = opt }, false}, {func(m *wire.Message) { m.Ns[0] = opt }, false}, {func(m *wire.Message) { m.Ar[0] = opt }, true}, {func(m *wire.Message) { m.Ar[1].Name = com }, false},
		{func(m *wire.Message) { m.Ar[1].Class = 65536 }, false}, {func(m *wire.Message) { m.Ar[1].TTL = 1 << 32 }, false}, {func(m *wire.Message) { m.Ar[1].Data += "o" }, false}, {func(m *wire.Message) { m.Ar[1].TTL = -1 }, false},
		{func(m *wire.Message) { m.Add(1, slices.Repeat([]api.RR{good}, 295)...) }, true}, {func(m *wire.Message) { m.Add(1, slices.Repeat([]api.RR{good}, 296)...) }, false},
	} {
		if m := with(c.f); wire.May(m) != c.want {
			t.Errorf("case %d", i)
		} else if _, e := wire.Encode(m, 1); e == api.ErrForm == c.want {
			t.Errorf("Encode, case %d: %d", i, e)
		}
	}
}

func TestAddAllAsk(t *testing.T) { // P5.2
	x, y, z := rr(www, api.A, 1, addr), rr(al, api.A, 2, addr), rr(com, api.A, 3, addr)
	m := wire.Ask(9, api.Question{Name: com, Type: 2, Class: 1})
	if m.ID != 9 || m.RD || m.QR || !slices.Equal(m.Q, []api.Question{{Name: com, Type: 2, Class: 1}}) || len(m.All()) != 0 {
		t.Errorf("%v", m)
	}
	for _, k := range []int{0, 4, -1, math.MaxInt} {
		before := m
		if m.Add(k, x) || !wire.Same(m, before) {
			t.Errorf("section %d: %v", k, m)
		}
	}
	if !m.Add(3, z) || !m.Add(1, x) || !m.Add(2, y) || !m.Add(1, y, x) || !m.Add(2) {
		t.Error("Add")
	}
	if !slices.Equal(m.An, []api.RR{x, y, x}) || !slices.Equal(m.Ns, []api.RR{y}) || !slices.Equal(m.Ar, []api.RR{z}) || !slices.Equal(m.All(), []api.RR{x, y, x, y, z}) {
		t.Errorf("%v", m)
	}
	if !wire.Same(asked(), wire.Message{Header: wire.Header{ID: 7}}) {
		t.Error("Ask without questions")
	}
}

func TestEncodeTellsNamesByPlaces(t *testing.T) { // P5.3
	m := wire.Message{Header: wire.Header{ID: 0x102, QR: true, Rcode: 3}, Q: []api.Question{{Name: www, Type: 1, Class: 1}}}
	m.Add(1, rr(www, api.CNAME, 5, al), rr(al, api.MX, 6, "\x00\x09"+com), rr(root, api.NS, 7, root))
	soa, _ := rdata.PutSoa(rdata.Soa{M: "\x01a\x02al\x03com\x00", R: www, Serial: 1})
	m.Add(2, rr(com, api.SOA, 8, soa), rr("\x03xom\x00", 99, 1, www))
	m.Add(3, rr("\x03www\x03xom\x00", api.A, 9, addr))
	want := "\x01\x02\x80\x03\x00\x01\x00\x03\x00\x02\x00\x01" + www + "\x00\x01\x00\x01" + // www at 12, com at 16
		"\xc0\x0c\x00\x05\x00\x01\x00\x00\x00\x05\x00\x05\x02al\xc0\x10" + // al at 37
		"\xc0\x25\x00\x0f\x00\x01\x00\x00\x00\x06\x00\x04\x00\x09\xc0\x10" +
		"\x00\x00\x02\x00\x01\x00\x00\x00\x07\x00\x01\x00" +
		"\xc0\x10\x00\x06\x00\x01\x00\x00\x00\x08\x00\x1a\x01a\xc0\x25\xc0\x0c" + soa[len(soa)-20:] +
		"\x03xom\x00\x00\x63\x00\x01\x00\x00\x00\x01\x00\x09" + www + // xom at 108
		"\x03www\xc0\x6c\x00\x01\x00\x01\x00\x00\x00\x09\x00\x04" + addr
	b, e := wire.Encode(m, 512)
	if string(b) != want || e != api.OK {
		t.Errorf("%x, %d\n%x", b, e, want)
	}
	if g, e := wire.Decode(b); !wire.Same(g, m) || e != api.OK {
		t.Errorf("%v, %d", g, e)
	}
	for _, most := range []int{len(want), math.MaxInt} {
		if b, e := wire.Encode(m, most); len(b) != len(want) || e != api.OK {
			t.Errorf("most %d: %d", most, e)
		}
	}
	for _, most := range []int{len(want) - 1, 0, -1, math.MinInt} {
		if b, e := wire.Encode(m, most); len(b) != 0 || e != api.ErrLong {
			t.Errorf("most %d: %d", most, e)
		}
	}
	if b, e := wire.Encode(wire.Ask(1, api.Question{Name: root, Type: api.NS, Class: api.IN}), 17); string(b) != "\x00\x01\x00\x00\x00\x01\x00\x00\x00\x00\x00\x00\x00\x00\x02\x00\x01" || e != api.OK {
		t.Errorf("the example: %x, %d", b, e)
	}
}

func TestEncodeAtMaxMsg(t *testing.T) { // P5.3
	m := wire.Message{}
	m.Add(1, slices.Repeat([]api.RR{rr(root, 99, 1, strings.Repeat("d", 988))}, 15)...) // 999 bytes each
	m.Add(1, rr(root, 99, 1, strings.Repeat("d", 1000)))                                // 1011
	room := api.MaxMsg - 12 - 15*999 - 1011
	m.An[15].Data = m.An[15].Data[:1000+room]
	b, e := wire.Encode(m, math.MaxInt)
	if len(b) != api.MaxMsg || e != api.OK {
		t.Fatalf("%d, %d", len(b), e)
	}
	if g, e := wire.Decode(b); !wire.Same(g, m) || e != api.OK {
		t.Errorf("%d", e)
	}
	m.An[0].Data += "d"
	if b, e := wire.Encode(m, math.MaxInt); len(b) != 0 || e != api.ErrLong {
		t.Errorf("%d, %d", len(b), e)
	}
	if _, e := wire.Decode(append(b, 0)); e != api.ErrLong {
		t.Errorf("%d", e)
	}
}

// message makes bytes of counts and what follows.
func message(q, an, ns, ar int, rest string) []byte {
	s, _ := num.Join(2, 7, 0x8000, q, an, ns, ar)
	return []byte(s + rest)
}

func TestDecodeNames(t *testing.T) { // P5.3
	for i, c := range []struct {
		rest string
		want string
		e    api.Errno
	}{
		{"\x03wWw\x03COM\x00", www, api.OK}, {"\x00", root, api.OK}, {"\xc0\x00", root, api.OK}, {"\xc0\x02", "", api.ErrForm}, {"\xc0\x04", root, api.OK}, {"\xc0\x0b", root, api.OK}, {"\xc0\x0c", "", api.ErrForm}, {"\xc0\x0d", "", api.ErrForm},
		{"\x01a\xc0\x0b", "\x01a\x00", api.OK}, {"\x01a\xc0\x0c", "", api.ErrForm}, {"\xff\xff", "", api.ErrForm}, {"\x40" + strings.Repeat("a", 64) + "\x00", "", api.ErrForm}, {"\x80\x00", "", api.ErrForm},
		{strings.Repeat("\x01a", 127) + "\x00", strings.Repeat("\x01a", 127) + "\x00", api.OK}, {strings.Repeat("\x01a", 128) + "\x00", "", api.ErrForm}, {strings.Repeat("\x01a", 127) + "\x01a\xc0\x0b", "", api.ErrForm},
	} {
		m, e := wire.Decode(message(1, 0, 0, 0, c.rest+"\x00\x01\x00\x01"))
		if e != c.e || e == api.OK && (len(m.Q) != 1 || m.Q[0] != api.Question{Name: c.want, Type: 1, Class: 1}) || e != api.OK && !wire.Same(m, wire.Message{}) {
			t.Errorf("case %d: %v, %d", i, m, e)
		}
	}
	// Places must lead ahead, step by step: 20 tells 16, which tells 12.
	m, e := wire.Decode(message(1, 1, 0, 0, "\x01x\x00"+"\x00\x01\x00\x01"+"\x01y\xc0\x0c"+"\x00\x02\x00\x01\x00\x00\x00\x01\x00\x02"+"\xc0\x13"))
	if e != api.OK || m.An[0].Name != "\x01y\x01x\x00" || m.An[0].Data != "\x01y\x01x\x00" {
		t.Errorf("%v, %d", m, e)
	}
	// A place that is gone to and tells a later one, or itself.
	for _, rest := range []string{"\xc0\x15\x00\x01\x00\x01", "\x01a\xc0\x11\xc0\x0e\x00\x01\x00\x01"} {
		if m, e := wire.Decode(message(1, 0, 0, 0, rest)); e != api.ErrForm {
			t.Errorf("%x: %v, %d", rest, m, e)
		}
	}
	// The first name's label holds a place that tells its own beginning: 13 is gone to, and says 13.
	if m, e := wire.Decode(message(2, 0, 0, 0, "\x02\xc0\x0d\x00"+"\x00\x01\x00\x01"+"\xc0\x0d"+"\x00\x01\x00\x01")); e != api.ErrForm {
		t.Errorf("%v, %d", m, e)
	}
	// 14 says 20, which lies ahead of the second name, but not of 14.
	if m, e := wire.Decode(message(2, 0, 0, 0, "\x03a\xc0\x14\x00"+"\x00\x01\x00\x01"+"\x00\xc0\x0e"+"\x00\x01\x00\x01")); e == api.OK {
		t.Errorf("%v, %d", m, e)
	}
}

func TestDecodeErrors(t *testing.T) { // P5.3
	head := "\x00" + "\x00\x01\x00\x01\x00\x00\x00\x05"
	record := func(kind int, data string) string {
		s, _ := num.Join(2, kind, 1, 0, 5, len(data))
		return "\x00" + s + data
	}
	soa := strings.Repeat("\x00", 22)
	const some = api.Errno(-1) // some error, where it is open which one it is
	for i, c := range []struct {
		b []byte
		e api.Errno
	}{
		{nil, api.ErrShort}, {make([]byte, 11), api.ErrShort}, {make([]byte, 12), api.OK}, {make([]byte, 13), api.ErrLong}, {make([]byte, api.MaxMsg+1), api.ErrLong},
		{message(1, 0, 0, 0, ""), api.ErrShort}, {message(1, 0, 0, 0, "\x00\x00\x01\x00"), api.ErrShort}, {message(1, 0, 0, 0, "\x03www"), api.ErrShort}, {message(1, 0, 0, 0, "\x03ww"), api.ErrShort},
		{message(1, 0, 0, 0, "\x01a\xc0"), api.ErrShort}, {message(0, 1, 0, 0, head+"\x00\x04\x01\x02\x03"), api.ErrShort}, {message(0, 1, 0, 0, head+"\x00"), api.ErrShort}, {message(0, 1, 0, 0, head+"\x00\x04"+addr), api.OK},
		{message(0, 1, 0, 0, head+"\x00\x04"+addr+"x"), api.ErrLong}, {message(0, 1, 0, 0, head+"\x00\x03\x01\x02\x03"), api.ErrForm},
		{message(0, 1, 0, 0, record(api.NS, "\x00")), api.OK}, {message(0, 1, 0, 0, record(api.NS, "\x00x")), api.ErrForm}, {message(0, 1, 0, 0, record(api.NS, "")), some},
		{message(0, 2, 0, 0, record(api.NS, "\x01a")+record(api.NS, "\x00")), some}, {message(0, 1, 0, 0, record(api.MX, "\x00")), some}, {message(0, 1, 0, 0, record(api.MX, "\x00\x01\x00")), api.OK},
		{message(0, 1, 0, 0, record(api.MX, "\x00\x01\x00x")), api.ErrForm}, {message(0, 1, 0, 0, record(api.SOA, soa)), api.OK}, {message(0, 1, 0, 0, record(api.SOA, soa[1:])), some}, {message(0, 1, 0, 0, record(api.SOA, soa+"x")), api.ErrForm},
		{message(0, 1, 0, 0, record(api.CNAME, "\xc0\x04")), api.OK}, {message(0, 1, 0, 0, record(api.CNAME, "\xc0\x17")), api.ErrForm}, {message(0, 1, 0, 0, record(api.TXT, "\x02a")), api.ErrForm},
		{message(0, 0, 0, 1, record(api.OPT, "")), api.OK}, {message(0, 0, 1, 0, record(api.OPT, "")), api.ErrForm}, {message(0, 1, 0, 0, record(api.OPT, "")), api.ErrForm}, {message(0, 0, 0, 1, "\x01a"+record(api.OPT, "")), api.ErrForm},
		{message(0, 0, 0, 1, record(api.AXFR, "")), api.ErrForm}, {message(0, 0, 0, 1, record(api.ANY, "")), api.ErrForm}, {message(0, 1, 0, 0, "\x00\x00\x63\x00\x01\x80\x00\x00\x00\x00\x00"), api.ErrForm},
		{message(0, 0, 0, 1, "\x00\x00\x29\x00\x01\xff\xff\xff\xff\x00\x00"), api.OK}, {message(0, 1, 0, 0, record(99, strings.Repeat("d", 1000))), api.OK}, {message(0, 1, 0, 0, record(99, strings.Repeat("d", 1001))), api.ErrForm},
		{message(0, 300, 0, 0, strings.Repeat(record(99, ""), 300)), api.OK}, {message(1, 300, 0, 0, "\x00\x00\x01\x00\x01"+strings.Repeat(record(99, ""), 300)), api.ErrLimit},
		{message(0, 100, 100, 101, strings.Repeat(record(99, ""), 301)), api.ErrLimit},
	} {
		m, e := wire.Decode(c.b)
		if e != c.e && (c.e != some || e == api.OK) || e != api.OK && !wire.Same(m, wire.Message{}) || e == api.OK && !wire.May(m) {
			t.Errorf("case %d: %v, %d", i, m, e)
		}
	}
}

func TestDecodeOfLongNamesAndMessages(t *testing.T) { // P5.3
	label := strings.Repeat("x", 63)
	long := "\x3f" + label + "\x3f" + label + "\x3f" + label + "\x3d" + label[:61] + "\x00"
	m, e := wire.Decode(message(1, 0, 0, 0, long+"\x00\x01\x00\x01"))
	if e != api.OK || m.Q[0].Name != long || len(long) != 255 {
		t.Errorf("%d", e)
	}
	if m, e := wire.Decode(message(1, 0, 0, 0, strings.Repeat("\x01a", 126)+"\x02aa\x00"+"\x00\x01\x00\x01")); e != api.ErrForm || !wire.Same(m, wire.Message{}) {
		t.Errorf("256 bytes: %d", e)
	}
	// More than MaxMsg bytes that would else be a message.
	record := "\x00\x00\x63\x00\x01\x00\x00\x00\x05\x03\xe8" + strings.Repeat("d", 1000)
	if _, e := wire.Decode(message(0, 15, 0, 0, strings.Repeat(record, 15))); e != api.OK {
		t.Errorf("%d", e)
	}
	if m, e := wire.Decode(message(0, 16, 0, 0, strings.Repeat(record, 16))); e != api.ErrLong || !wire.Same(m, wire.Message{}) {
		t.Errorf("%d", e)
	}
}

func TestSame(t *testing.T) { // P5.3
	base := func() wire.Message {
		x := []api.RR{rr(www, api.A, 1, addr)}
		return wire.Message{Header: wire.Header{ID: 1}, Q: []api.Question{{Name: com, Type: 2, Class: 1}}, An: x, Ns: slices.Clone(x), Ar: slices.Clone(x)}
	}
	for i, f := range []func(m *wire.Message){
		func(m *wire.Message) { m.ID = 2 }, func(m *wire.Message) { m.RA = true }, func(m *wire.Message) { m.Q[0].Type = 3 }, func(m *wire.Message) { m.Q = nil }, func(m *wire.Message) { m.An[0].TTL = 2 },
		func(m *wire.Message) { m.Ns = append(m.Ns, m.Ns[0]) }, func(m *wire.Message) { m.Ar[0].Data = "4321" },
	} {
		a, b := base(), base()
		if !wire.Same(a, b) {
			t.Fatal("not the same")
		}
		f(&b)
		if wire.Same(a, b) || wire.Same(b, a) {
			t.Errorf("case %d", i)
		}
	}
	if !wire.Same(wire.Message{}, wire.Message{Q: []api.Question{}, An: []api.RR{}}) {
		t.Error("of none")
	}
}

// random makes a message that may be.
func random(r *rand.Rand) wire.Message {
	some := func() string {
		var l []string
		for range r.Intn(5) {
			l = append(l, string([]byte{byte('a' + r.Intn(2))}))
		}
		n, _ := name.Join(l...)
		return n
	}
	record := func() api.RR {
		n := some()
		switch r.Intn(6) {
		case 0:
			return rr(n, api.NS, r.Intn(99), some())
		case 1:
			return rr(n, api.CNAME, r.Intn(99), some())
		case 2:
			return rr(n, api.MX, r.Intn(99), "\x00\x07"+some())
		case 3:
			soa, _ := rdata.PutSoa(rdata.Soa{M: some(), R: some(), Serial: r.Intn(1 << 32), Min: r.Intn(1 << 32)})
			return rr(n, api.SOA, r.Intn(1<<31), soa)
		case 4:
			return rr(n, 300+r.Intn(3), 7, strings.Repeat("\xc0\x0c", r.Intn(9)))
		}
		return rr(n, api.A, 7, addr)
	}
	m := wire.Message{}
	m.Header, _ = wire.Unflag(r.Intn(65536), r.Intn(65536))
	for range r.Intn(3) {
		m.Q = append(m.Q, api.Question{Name: some(), Type: r.Intn(65536), Class: r.Intn(65536)})
	}
	for k := 1; k < 4; k++ {
		for range r.Intn(6) {
			m.Add(k, record())
		}
	}
	if r.Intn(3) == 0 {
		m.Add(3, api.RR{Name: root, Type: api.OPT, Class: r.Intn(65536), TTL: r.Intn(1 << 32), Data: "xyz"[:r.Intn(4)]})
	}
	return m
}

func TestDecodeOfEncode(t *testing.T) { // P5.5
	r := rand.New(rand.NewSource(5))
	for range 2000 {
		m := random(r)
		b, e := wire.Encode(m, api.MaxMsg)
		if e != api.OK {
			t.Fatalf("%v: %d", m, e)
		}
		g, e := wire.Decode(b)
		if e != api.OK || !wire.Same(g, m) {
			t.Fatalf("%v: %v, %d", m, g, e)
		}
		for range 20 {
			c := bytes.Clone(b)
			for range 1 + r.Intn(3) {
				c[r.Intn(len(c))] = byte(r.Intn(256))
			}
			if r.Intn(4) == 0 {
				c = c[:r.Intn(len(c))]
			}
			g, e := wire.Decode(c)
			if e == api.OK && !wire.May(g) || e != api.OK && !wire.Same(g, wire.Message{}) {
				t.Fatalf("%x: %v, %d", c, g, e)
			}
			if e == api.OK {
				again, e := wire.Encode(g, api.MaxMsg)
				if back, f := wire.Decode(again); e == api.OK && (f != api.OK || !wire.Same(back, g)) {
					t.Fatalf("%x: %v, %d", c, back, f)
				}
			}
		}
		for cut := range b {
			if _, e := wire.Decode(b[:cut]); e != api.ErrShort {
				t.Fatalf("%x cut at %d: %d", b, cut, e)
			}
		}
	}
}

func TestListsAreNew(t *testing.T) { // P5.4
	x, y := rr(www, api.A, 1, addr), rr(al, api.A, 2, addr)
	room := make([]api.RR, 1, 9)
	room[0] = x
	m := wire.Message{An: room}
	m.Add(1, y)
	if z := room[:2][1]; z != (api.RR{}) {
		t.Errorf("what lies behind was written: %v", z)
	}
	l := []api.RR{x}
	m.Add(2, l...)
	l[0] = y
	all := m.All()
	all[0] = y
	q := []api.Question{{Name: com}}
	a := wire.Ask(1, q...)
	q[0].Name = al
	if m.Ns[0] != x || m.An[0] != x || a.Q[0].Name != com {
		t.Errorf("%v, %v", m, a)
	}
	b, _ := wire.Encode(m, 512)
	g, _ := wire.Decode(b)
	_ = append(g.An, y, y, y)
	_ = append(g.Ns, y, y, y)
	for i := range b {
		b[i] = 0xff
	}
	if !wire.Same(g, m) {
		t.Errorf("%v", g)
	}
}
