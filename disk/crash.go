package disk

// notArmed: any number of writes is taken.
const notArmed = -1

// Arm: so many writes are taken from now on, the next one takes the disk down;
// below 0: any number is taken.
func (d *Disk) Arm(writes int) {
	if d != nil {
		d.armed = writes
	}
}

// Down: did it go down? (A nil disk is never up.)
func (d *Disk) Down() bool { return d == nil || d.down.Load() }

// Cached: how many writes a crash may lose.
func (d *Disk) Cached() int {
	if d == nil {
		return 0
	}
	return len(d.cache)
}

// Crash: the power goes and comes again. Of the cached writes those become
// stable whose place in keep says true; the others are lost.
func (d *Disk) Crash(keep []bool) {
	if d == nil {
		return
	}
	for k, w := range d.cache {
		if k < len(keep) && keep[k] {
			d.stable[w.at] = w.data
		}
	}
	d.cache = nil
	d.armed = notArmed
	d.down.Store(false)
}
