package script

import (
	"rhizome/api"
	"rhizome/md"
	"rhizome/name"
	"rhizome/rdata"
	"rhizome/sets"
	"rhizome/world"
	"rhizome/zone"
)

const root = "\x00"

// of is the name of labels that are known to make one.
func of(labels ...string) string {
	n, _ := name.Join(labels...)
	return n
}

// h is the i-th address.
func h(i int) string {
	s, _ := rdata.Addr(192, 0, 2, i)
	return s
}

func record(n string, kind, ttl int, data string) api.RR {
	return api.RR{Name: n, Type: kind, Class: api.IN, TTL: ttl, Data: data}
}

// soa is the data of an SOA; all zones have the same times.
func soa(m, r string, serial int) (string, api.Errno) {
	return rdata.PutSoa(rdata.Soa{M: m, R: r, Serial: serial, Refresh: 100, Retry: 20, Expire: 400, Min: 30})
}

// Root makes the zone of the root, with its digest.
func Root(serial int) (*zone.Zone, api.Errno) {
	start, e := soa(of("a"), of("b"), serial)
	if e != api.OK {
		return nil, e
	}
	l := []api.RR{record(root, api.SOA, 60, start), record(root, api.NS, 60, of("a")), record(of("a"), api.A, 60, h(1))}
	for i, top := range []string{"com", "net"} {
		l = append(l, record(of(top), api.NS, 50, of("ns", top)), record(of("ns", top), api.A, 50, h(2+i)))
	}
	if serial%2 == 1 {
		l = append(l, record(of("org"), api.NS, 50, of("ns", "net")))
	}
	l, e = md.Sign(root, l...)
	if e != api.OK {
		return nil, e
	}
	return zone.New(root, l...)
}

// Child makes a zone below the root.
func Child(apex string, n int) (*zone.Zone, api.Errno) {
	if !name.May(apex) || apex == root {
		return nil, api.ErrName
	}
	var names [4]string
	for i, first := range []string{"ns", "www", "al", "dn"} {
		s, e := name.Join(append([]string{first}, name.Labels(apex)...)...)
		if e != api.OK {
			return nil, e
		}
		names[i] = s
	}
	ns, www, al, dn := names[0], names[1], names[2], names[3]
	start, e := soa(ns, ns, n)
	if e != api.OK {
		return nil, e
	}
	return zone.New(apex,
		record(apex, api.SOA, 40, start), record(apex, api.NS, 40, ns), record(ns, api.A, 40, h(2+n%3)),
		record(www, api.A, 20, h(100+n%50)), record(al, api.CNAME, 20, of("www", "com")), record(dn, api.NS, 40, of("ns", "com")))
}

// Hints tells where the root's server is.
func Hints() []sets.Set {
	return sets.Group(record(root, api.NS, 60, of("a")), record(of("a"), api.A, 60, h(1)))
}

// Servers tells those that answer of the root and of what is below it.
func Servers(serial int) []world.Server {
	l := []world.Server{{Addr: h(1)}, {Addr: h(2)}, {Addr: h(3)}}
	if z, e := Root(serial); e == api.OK {
		l[0].Zones = []*zone.Zone{z}
	}
	for _, labels := range [][]string{{"com"}, {"dn", "com"}, {"dn", "net"}, {"dn", "org"}} {
		z, _ := Child(of(labels...), 0)
		l[1].Zones = append(l[1].Zones, z)
	}
	for _, label := range []string{"net", "org"} {
		z, _ := Child(of(label), 1)
		l[2].Zones = append(l[2].Zones, z)
	}
	return l
}
