package disk

import "armarium/api"

// A need is what must be so ahead of a call on a disk: it answers OK, or the error that the call then answers.
type need func(*Disk) api.Errno

// ask answers the first error of what must be so. Each is asked only behind those ahead of it, so all may lean on there being a disk, and act on all the others.
func (d *Disk) ask(needs ...need) api.Errno {
	if d == nil {
		return api.ErrNil
	}
	for _, n := range needs {
		if e := n(d); e != api.OK {
			return e
		}
	}
	return api.OK
}

func (d *Disk) powered() api.Errno { return unless(d.power, api.ErrDead) }

func sectorIs(at int) need {
	return func(d *Disk) api.Errno { return unless(at >= 0 && at < len(d.stored), api.ErrArg) }
}

func bytesFill(b []byte) need {
	return func(*Disk) api.Errno { return unless(len(b) == api.Sector, api.ErrArg) }
}

func actsMayBe(acts int) need {
	return func(*Disk) api.Errno { return unless(acts >= 0, api.ErrArg) }
}

// act is asked last, as a call with another error is none: it takes one act from the fuse, and where none is left, the power.
func (d *Disk) act() api.Errno {
	if d.fuse.lit && d.fuse.left == 0 {
		d.lose(d.fuse.keep)
		return api.ErrDead
	}
	if d.fuse.lit {
		d.fuse.left--
	}
	d.acts++
	return api.OK
}

func unless(holds bool, e api.Errno) api.Errno {
	if holds {
		return api.OK
	}
	return e
}
