package disk

import (
	"maps"
	"slices"

	"scow/api"
	"scow/vint"
)

// Save is what is safe, as bytes: of each name its text, how many sectors its file has, and these (P4.9).
func (d *Disk) Save() []byte {
	if d == nil {
		return nil
	}
	var b []byte
	safe := d.dirs[0]
	for _, name := range slices.Sorted(maps.Keys(safe)) {
		sectors := d.files[safe[name]].safe
		b = append(b, vint.PutBytes([]byte(name))...)
		b = append(b, vint.Put(uint64(len(sectors)))...)
		for _, s := range sectors {
			b = append(b, s[:]...)
		}
	}
	return b
}

// Load is a disk whose Save is b (P4.9).
func Load(room int, b []byte) (*Disk, error) {
	d, e := load(room, b)
	return d, fault("load", "", e)
}

func load(room int, b []byte) (*Disk, api.Errno) {
	d, e := empty(room)
	if e != api.OK {
		return nil, e
	}
	dir, last := d.now(), "" // below all names
	for len(b) > 0 {
		name, f, size := saved(b)
		if size == 0 || name <= last || len(dir) >= api.MaxFiles {
			return nil, api.ErrSaved
		}
		dir[name] = d.add(f)
		b, last = b[size:], name
	}
	if d.taken() > room {
		return nil, api.ErrFull
	}
	return d, api.OK
}

// saved is the file with which b begins: its name, its sectors, how many bytes all of it has; 0 of them, if there is none.
func saved(b []byte) (string, *file, int) {
	name, begin, e := vint.GetBytes(b)
	if e != api.OK || !isName(string(name)) {
		return "", nil, 0
	}
	count, size, e := vint.Get(b[begin:])
	if e != api.OK || count > api.MaxSectors {
		return "", nil, 0
	}
	begin += size
	end := begin + int(count)*api.SectorSize
	if end > len(b) {
		return "", nil, 0
	}
	sectors := make([]sector, 0, count)
	for s := range slices.Chunk(b[begin:end], api.SectorSize) {
		sectors = append(sectors, sector(s))
	}
	return string(name), &file{now: sectors, safe: slices.Clone(sectors)}, end
}
