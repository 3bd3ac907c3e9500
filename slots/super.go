package slots

import (
	"rhizome/api"
	"rhizome/num"
)

// Super is what sector 0 says of the image.
type Super struct {
	Gen, Slot, Size, Time, Sum int
}

const (
	magic   = "RS"
	mostGen = 1<<48 - 1
)

// What stands in sector 0, place by place.
const (
	atGen  = 2
	atSlot = 8
	atSize = 9
	atTime = 12
	atSum  = 18
	atCrc  = 22
)

// Bytes tells the sector.
func (u Super) Bytes() ([]byte, api.Errno) {
	// A generation of 0 and a slot above 1 have a place, but may not be; so has a time past MaxTime.
	if u.Gen < 1 || u.Slot > 1 || !mayTime(u.Time) {
		return nil, api.ErrRange
	}
	ahead := magic
	for _, f := range [][2]int{{u.Gen, 6}, {u.Slot, 1}, {u.Size, 3}, {u.Time, 6}, {u.Sum, 4}} {
		s, e := num.Put(f[0], f[1])
		if e != api.OK {
			return nil, e
		}
		ahead += s
	}
	crc, _ := num.Put(int(num.Crc(ahead)), 4)
	b := make([]byte, api.Sector)
	copy(b, ahead+crc)
	return b, api.OK
}

func mayTime(time int) bool { return time >= 0 && time <= api.MaxTime }

// Read tells the Super whose sector b is.
func Read(b []byte) (Super, bool) {
	if len(b) != api.Sector {
		return Super{}, false
	}
	s := string(b)
	get := func(from, to int) int {
		n, _ := num.Get(s, from, to-from)
		return n
	}
	u := Super{Gen: get(atGen, atSlot), Slot: get(atSlot, atSize), Size: get(atSize, atTime), Time: get(atTime, atSum), Sum: get(atSum, atCrc)}
	if own, e := u.Bytes(); e != api.OK || string(own) != s {
		return Super{}, false
	}
	return u, true
}
