package redo

import (
	"exchequer/api"
	"exchequer/disk"
	"exchequer/layout"
	"exchequer/sector"
)

// piece is what is to be written at a sector.
type piece struct {
	at    int
	bytes []byte
}

// put writes pieces in their order, and makes them safe.
func put(d *disk.Disk, pieces ...piece) api.Errno {
	for _, p := range pieces {
		if err := d.Write(p.at, p.bytes); err != api.OK {
			return err
		}
	}
	return d.Flush()
}

// markOf answers the mark that so many slots count with this seq.
func markOf(count, seq int) (piece, api.Errno) {
	b, err := sector.Pack(count, seq, make([]byte, api.Page))
	if err != api.OK {
		return piece{}, err
	}
	return piece{layout.Mark(), b}, api.OK
}

// pieces answers what a commit of images writes. All of it is packed before any is written, so that a seq beyond what a sector takes changes nothing.
func (l *Log) pieces(images []api.Image) (slots []piece, mark piece, homes []piece, err api.Errno) {
	seq := l.seq + 1
	for i, image := range images {
		b, err := sector.Pack(image.Page, seq, image.Data)
		if err != api.OK {
			return nil, piece{}, nil, err
		}
		// The images are right: there are a slot and a home for each.
		slot, _ := layout.Slot(l.Size(), i)
		home, _ := layout.Home(l.Size(), image.Page)
		slots = append(slots, piece{slot, b})
		homes = append(homes, piece{home, b})
	}
	mark, err = markOf(len(images), seq)
	if err != api.OK {
		return nil, piece{}, nil, err
	}
	return slots, mark, homes, api.OK
}

// redo brings what the first count slots have home, if they are whole.
func (l *Log) redo(count int) api.Errno {
	if count > l.Pages() {
		return api.OK
	}
	var homes []piece
	for i := range count {
		home, whole, err := l.homeOf(i)
		if err != api.OK || !whole {
			return err
		}
		homes = append(homes, home)
	}
	return put(l.Disk, homes...)
}

// homeOf answers what slot i has to be written at its page's home; false, if the slot isn't of the log's seq.
func (l *Log) homeOf(i int) (piece, bool, api.Errno) {
	slot, _ := layout.Slot(l.Size(), i)
	b, err := l.Read(slot)
	if err != api.OK {
		return piece{}, false, err
	}
	page, seq, _, err := sector.Unpack(b)
	if err != api.OK || seq != l.seq {
		return piece{}, false, api.OK
	}
	home, ok := layout.Home(l.Size(), page)
	if !ok {
		return piece{}, false, api.OK
	}
	return piece{home, b}, true, api.OK
}
