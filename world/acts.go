package world

import (
	"slices"

	"rhizome/api"
	"rhizome/auth"
	"rhizome/axfr"
	"rhizome/name"
	"rhizome/resolver"
	"rhizome/serial"
	"rhizome/table"
	"rhizome/wire"
	"rhizome/zone"
)

const (
	mostEach = 50 // records of a message of a stream
	ahead    = 2  // bytes that tell a length ahead of what is pulled
)

// do does what an act says.
func (w *World) do(a Act) bool {
	switch a.Kind {
	case Serve:
		return w.serve(a.Server)
	case Plan:
		w.disk.CrashAt(a.N, a.Bytes...)
		return true
	case Start:
		return w.restart(a)
	}
	if w.resolver == nil {
		return false
	}
	switch a.Kind {
	case Fall:
		w.disk.Crash(a.Bytes...)
		w.resolver = nil
		return true
	case Query:
		w.resolver.Client(w.now, a.From, a.Flag, a.Bytes)
		return true
	case Tick:
		return w.tick(a.N)
	case Deliver:
		o, ok := w.take(a.K)
		if ok {
			w.deliver(o, a)
		}
		return ok
	case Lose:
		_, ok := w.take(a.K)
		return ok
	case Raw:
		return w.raw(a)
	case Forge:
		return w.forge(a)
	}
	return false
}

// serve lays a server down, or in the place of an elder one.
func (w *World) serve(s Server) bool {
	s.Zones = slices.Clone(s.Zones)
	at := w.find(s.Addr)
	switch {
	case at >= 0:
		w.servers[at] = s
	case len(w.servers) < mostServers:
		w.servers = append(w.servers, s)
	default:
		return false
	}
	return true
}

// find tells where the server of an address stands: -1, if there is none.
func (w *World) find(addr string) int {
	return slices.IndexFunc(w.servers, func(s Server) bool { return s.Addr == addr })
}

// restart lets a machine that is down begin anew.
func (w *World) restart(a Act) bool {
	if w.resolver != nil {
		return false
	}
	w.disk.Reboot()
	if w.start() != api.OK {
		return false
	}
	if a.Flag && a.N >= 0 && a.N <= api.MaxTime {
		w.now = a.N
	}
	return true
}

func (w *World) tick(n int) bool {
	if n < 0 || n > mostTick || w.now+n > api.MaxTime {
		return false
	}
	w.now += n
	w.resolver.Time(w.now)
	return true
}

// take takes the k-th that is out away.
func (w *World) take(k int) (resolver.Out, bool) {
	if k < 0 || k >= len(w.out) {
		return resolver.Out{}, false
	}
	o := w.out[k]
	w.out = slices.Delete(w.out, k, k+1)
	return o, true
}

// question reads what is asked.
func question(o resolver.Out) (int, api.Question, bool) {
	b := o.Bytes
	if o.Kind == resolver.PullMaster {
		b = b[ahead:]
	}
	m, e := wire.Decode(b)
	if e != api.OK || len(m.Q) != 1 {
		return 0, api.Question{}, false
	}
	return m.ID, m.Q[0], true
}

// deliver lets the server answer that it goes to, if there is one.
func (w *World) deliver(o resolver.Out, a Act) {
	at := w.find(o.To)
	id, q, ok := question(o)
	if at < 0 || !ok {
		return
	}
	zones := w.servers[at].Zones
	if o.Kind == resolver.PullMaster {
		w.stream(id, q, a.N, zones)
		return
	}
	m := auth.Message(id, q, Best(q, zones...))
	if o.Kind == resolver.Ask && a.Flag {
		m.TC, m.An, m.Ns, m.Ar = true, nil, nil, nil
	}
	if b, e := wire.Encode(m, api.MaxMsg); e == api.OK {
		w.answer(o, id, b)
	}
}

// answer hands bytes in as the answer to what is out.
func (w *World) answer(o resolver.Out, id int, b []byte) {
	switch o.Kind {
	case resolver.Ask, resolver.AskTCP:
		w.resolver.Answer(w.now, table.Mark{ID: id, Port: o.Port, To: o.To, TCP: o.Kind == resolver.AskTCP}, b)
	case resolver.AskMaster:
		w.resolver.Master(w.now, o.To, b)
	case resolver.PullMaster:
		w.resolver.Pull(w.now, b)
	}
}

// stream lets a zone come in two pieces, or the stream end where there is none.
func (w *World) stream(id int, q api.Question, n int, zones []*zone.Zone) {
	at := slices.IndexFunc(zones, func(z *zone.Zone) bool { return z != nil && z.Apex() == q.Name })
	if at < 0 {
		w.resolver.Close(w.now)
		return
	}
	b, e := axfr.Make(id, q.Name, serial.Clip(n, 1, mostEach), zones[at].Records()...)
	if e != api.OK {
		w.resolver.Close(w.now)
		return
	}
	first := serial.Clip(n, 0, len(b))
	w.resolver.Pull(w.now, b[:first])
	w.resolver.Pull(w.now, b[first:])
}

// raw hands any bytes in as the answer to what is out, and leaves it out.
func (w *World) raw(a Act) bool {
	if a.K < 0 || a.K >= len(w.out) {
		return false
	}
	o := w.out[a.K]
	id, _, _ := question(o)
	w.answer(o, id, a.Bytes)
	return true
}

// forge hands any bytes in, of any mark.
func (w *World) forge(a Act) bool {
	if a.N < 0 || a.K < 0 {
		return false
	}
	w.resolver.Answer(w.now, table.Mark{ID: a.N, Port: a.K, To: a.From, TCP: a.Flag}, a.Bytes)
	return true
}

// covering tells the zones that a name is under.
func covering(n string, l []*zone.Zone) []*zone.Zone {
	return slices.DeleteFunc(slices.Clone(l), func(z *zone.Zone) bool { return z == nil || !name.Under(n, z.Apex()) })
}
