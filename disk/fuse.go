package disk

// unarmed is what is left of a new fuse.
const unarmed = -1

// fuse brings a disk down at a write.
type fuse struct {
	left  int // how many writes it lets through; below 0 all
	blown bool
}

// blows tells whether the write that comes is one too many; if not, one less is left.
func (f *fuse) blows() bool {
	switch {
	case f.left == 0:
		f.blown = true
	case f.left > 0:
		f.left--
	}
	return f.blown
}

func (f *fuse) mend() {
	*f = fuse{left: unarmed}
}
