package disk_test

import (
	"bytes"
	"fmt"
	"math"
	"slices"
	"strings"
	"testing"

	"scow/api"
	"scow/disk"
)

// P4.1: the rooms that a disk may have.
func TestNew(t *testing.T) {
	for _, room := range []int{math.MinInt, -4096, -1, api.MaxSectors + 1, 1 << 40, math.MaxInt} {
		d, err := disk.New(room)
		if d != nil {
			t.Errorf("New(%d) tells a disk", room)
		}
		faulty(t, err, "new", "", api.ErrArg)
	}
	for _, room := range []int{0, 1, 63, api.MaxSectors - 1, api.MaxSectors} {
		d := made(t, room)
		if got := look(d); got != look(made(t, 7)) || len(d.Names()) != 0 {
			t.Errorf("New(%d): %s", room, got)
		}
		done(t, d.Create("a"), d.Grow("a", room))
		if room < api.MaxSectors {
			faulty(t, d.Grow("a", room+1), "grow", "a", api.ErrFull)
		}
	}
}

// P4.1: names by their lengths.
func TestNameLengths(t *testing.T) {
	for n := range 40 {
		name := strings.Repeat("a", n)
		d := with(t, 3, 1)
		if n == 1 {
			done(t, d.Rename("a", "b"))
		}
		if n >= 1 && n <= 16 {
			done(t, create(name).do(d))
			if !slices.Contains(d.Names(), name) {
				t.Errorf("%q is not there", name)
			}
			continue
		}
		create(name).refused(t, d, api.ErrArg)
		rename("a", name).refused(t, d, api.ErrArg)
	}
	create(strings.Repeat("a", 1<<16)).refused(t, made(t, 3), api.ErrArg)
}

// P4.1: names by their bytes, at each place.
func TestNameBytes(t *testing.T) {
	for i := range 256 {
		c := string([]byte{byte(i)})
		good := strings.Contains("abcdefghijklmnopqrstuvwxyz0123456789.", c)
		for _, name := range []string{c, "x" + c, c + "x", "x" + c + "y", strings.Repeat("z", 15) + c} {
			d := with(t, 3, 1)
			if good {
				done(t, d.Rename("a", "name"), d.Create(name), d.Remove(name), d.Rename("name", name))
				continue
			}
			create(name).refused(t, d, api.ErrArg)
			rename("a", name).refused(t, d, api.ErrArg)
		}
	}
	for _, name := range []string{"é", "aé", "日本", "ａ", "\xff", "a\x00"} {
		create(name).refused(t, made(t, 3), api.ErrArg)
	}
	for _, name := range []string{".", "..", "...", "0", "a.b", "name.db", "r.cur"} {
		done(t, made(t, 3).Create(name))
	}
}

// P4.2: names rise, whatever the order in which they came.
func TestNamesRise(t *testing.T) {
	want := []string{".", "0", "00", "9z", "a", "a.", "aa", "z"}
	for turn := range want {
		d := made(t, 0)
		for i := range want {
			done(t, d.Create(want[(i*3+turn)%len(want)]))
		}
		if got := d.Names(); !slices.Equal(got, want) {
			t.Errorf("%q", got)
		}
	}
}

// P4.3: Create's errors, in their order.
func TestCreate(t *testing.T) {
	d := made(t, 5)
	for i := range api.MaxFiles {
		name := fmt.Sprint("f", i)
		done(t, d.Create(name))
		create(name).refused(t, d, api.ErrThere)
		create("A").refused(t, d, api.ErrArg)
		if n, err := d.Len(name); n != 0 || err != nil {
			t.Errorf("a new file has %d sectors, %v", n, err)
		}
		pending(t, d, 0, i+1)
	}
	create("g").refused(t, d, api.ErrMany)
	create("f7").refused(t, d, api.ErrThere)
	create("").refused(t, d, api.ErrArg)
	create("G").refused(t, d, api.ErrArg)
	done(t, d.SyncDir())
	create("g").refused(t, d, api.ErrMany)
	done(t, d.Rename("f3", "f4"), d.Create("g")) // one is taken away by the new name
	create("h").refused(t, d, api.ErrMany)
	done(t, d.Remove("g"), d.Create("h")) // those now count, not the safe ones
	create("i").refused(t, d, api.ErrMany)
}

// P4.3: Remove, and a new file of an old name, which has nothing of it.
func TestRemove(t *testing.T) {
	d := with(t, 5, 2)
	remove("b").refused(t, d, api.ErrNone)
	remove("").refused(t, d, api.ErrNone)
	remove("A").refused(t, d, api.ErrNone)
	done(t, d.Write("a", 0, sec('x')), d.Remove("a"))
	remove("a").refused(t, d, api.ErrNone)
	if len(d.Names()) != 0 {
		t.Errorf("%q are there", d.Names())
	}
	if n, err := d.Len("a"); n != 0 || api.Code(err) != api.ErrNone {
		t.Errorf("what is gone has %d sectors, %v", n, err)
	}
	done(t, d.Create("a"))
	if n, err := d.Len("a"); n != 0 || err != nil {
		t.Errorf("a new file of an old name has %d sectors, %v", n, err)
	}
	pending(t, d, 1, 2)
	done(t, d.Grow("a", 1), d.Sync("a")) // that is the new one: the old one's write is pending still
	pending(t, d, 1, 2)
	behind(t, d, "a 78 00", 0, 0)
	behind(t, d, "", 1, 0)
	behind(t, d, "a 00", 2, 0)
}

// P4.3: Rename's errors in their order; onto another name, onto another file, from to itself.
func TestRename(t *testing.T) {
	d := with(t, 9, 1)
	done(t, d.Create("b"), d.Grow("b", 2), d.SyncDir(), d.Write("a", 0, sec('x')), d.Write("b", 1, sec('y')))
	rename("c", "d").refused(t, d, api.ErrNone)
	rename("c", "D").refused(t, d, api.ErrNone) // ahead of ErrArg
	rename("", "").refused(t, d, api.ErrNone)
	rename("a", "").refused(t, d, api.ErrArg)
	rename("a", "seventeen.letters").refused(t, d, api.ErrArg)
	for i, c := range []struct{ from, to, want string }{
		{"a", "c", "b 00 79; c 78"},
		{"b", "b", "b 00 79; c 78"},
		{"c", "b", "b 78"},
		{"b", "a", "a 78"},
		{"a", "a", "a 78"},
	} {
		done(t, d.Rename(c.from, c.to))
		shows(t, d, c.want)
		pending(t, d, 2, i+1)
	}
	for k, want := range []string{"a 78; b 00 79", "b 00 79; c 78", "b 00 79; c 78", "b 78", "a 78", "a 78"} {
		behind(t, d, want, k, 0, 1)
	}
}

// P4.3: what is renamed keeps what it has, and its pending writes, which Sync finds under the new name.
func TestRenamedFileIsTheSame(t *testing.T) {
	d := with(t, 9, 2)
	done(t, d.Write("a", 0, sec('x')), d.Rename("a", "b"), d.Write("b", 1, sec('y')), d.Create("a"), d.Grow("a", 2), d.Write("a", 0, sec('z')))
	done(t, d.Sync("b"))
	pending(t, d, 1, 2)
	behind(t, d, "a 78 79", 0)
	behind(t, d, "a 7a 00; b 78 79", 2, 0)
}

// P4.4: Grow to the room's edge and beyond it, and its errors in their order.
func TestGrow(t *testing.T) {
	d := with(t, 10, 3)
	for _, n := range []int{math.MinInt, -1, 0, 2, api.MaxSectors + 1, math.MaxInt} {
		grow("a", n).refused(t, d, api.ErrArg)
		grow("b", n).refused(t, d, api.ErrNone)
	}
	grow("b", 3).refused(t, d, api.ErrNone)
	grow("", 3).refused(t, d, api.ErrNone)
	grow("a", 11).refused(t, d, api.ErrFull)
	grow("a", api.MaxSectors).refused(t, d, api.ErrFull)
	was := look(d)
	done(t, d.Grow("a", 3))
	if look(d) != was {
		t.Error("Grow to what it has did something")
	}
	done(t, d.Write("a", 2, sec('x')), d.Grow("a", 4), d.Create("b"), d.Grow("b", 6))
	for _, n := range []int{7, 8, 4096} {
		grow("b", n).refused(t, d, api.ErrFull)
	}
	grow("a", 5).refused(t, d, api.ErrFull)
	done(t, d.Grow("a", 4), d.Grow("b", 6)) // at the edge, nothing more
	shows(t, d, "a 00 00 78 00; b 00 00 00 00 00 00")
	done(t, d.Remove("b"), d.Grow("a", 10)) // only files of the directory now count
	grow("a", 11).refused(t, d, api.ErrFull)
}

// P4.4: what Grow does is safe at once, without a Sync, and is no change, and no write.
func TestGrowIsSafe(t *testing.T) {
	d := with(t, 10, 1)
	done(t, d.Write("a", 0, sec('x')), d.Grow("a", 3))
	pending(t, d, 1, 0)
	behind(t, d, "a 00 00 00", 0)
	behind(t, d, "a 78 00 00", 0, 0)
}

// P4.4: files that are back behind a crash may have more than room together; then none of them grows, not even by nothing.
func TestGrowOfTooMany(t *testing.T) {
	d := with(t, 10, 6)
	done(t, d.Create("b"), d.SyncDir(), d.Remove("a"), d.Grow("b", 9))
	d.Crash(0)
	grow("b", 10).refused(t, d, api.ErrFull)
	grow("b", 9).refused(t, d, api.ErrFull)
	grow("a", 6).refused(t, d, api.ErrFull)
	grow("a", 5).refused(t, d, api.ErrArg)
	done(t, d.Remove("a"), d.Grow("b", 10))
}

// P4.4: a disk of MaxSectors, full.
func TestGrowToTheMost(t *testing.T) {
	d := with(t, api.MaxSectors, 0)
	done(t, d.Create("b"), d.Grow("b", 1))
	faulty(t, d.Grow("a", api.MaxSectors), "grow", "a", api.ErrFull)
	done(t, d.Grow("a", api.MaxSectors-1), d.Write("a", api.MaxSectors-2, sec('x')))
	faulty(t, d.Write("a", api.MaxSectors-1, sec('x')), "write", "a", api.ErrSector)
	faulty(t, d.Grow("a", api.MaxSectors+1), "grow", "a", api.ErrArg)
	done(t, d.Remove("b"), d.Grow("a", api.MaxSectors))
	if n, err := d.Len("a"); n != api.MaxSectors || err != nil {
		t.Errorf("%d, %v", n, err)
	}
}

// P4.4: Write and Read at every edge, and their errors in their order.
func TestWriteAndRead(t *testing.T) {
	d := with(t, 10, 3)
	mixed := make([]byte, api.SectorSize)
	for i := range mixed {
		mixed[i] = byte(251 * i)
	}
	for i, p := range [][]byte{mixed, sec(1), sec(255)} {
		done(t, d.Write("a", i, p))
	}
	done(t, d.Write("a", 1, sec(7)))
	for i, want := range [][]byte{mixed, sec(7), sec(255)} {
		if got, err := d.Read("a", i); !bytes.Equal(got, want) || err != nil {
			t.Errorf("Read(%d) = %x, %v", i, got, err)
		}
	}
	pending(t, d, 4, 0)
	for _, n := range []int{math.MinInt, -1, 3, 4, 10, api.MaxSectors, math.MaxInt} {
		write("a", n, sec(1)).refused(t, d, api.ErrSector)
		write("a", n, nil).refused(t, d, api.ErrSector)
		read("a", n).refused(t, d, api.ErrSector)
		write("b", n, nil).refused(t, d, api.ErrNone)
		read("b", n).refused(t, d, api.ErrNone)
	}
	for _, size := range []int{0, 1, 63, 65, 128, 4096} {
		write("a", 1, make([]byte, size)).refused(t, d, api.ErrArg)
		write("b", 1, make([]byte, size)).refused(t, d, api.ErrNone)
	}
	done(t, d.Create("b"))
	for _, n := range []int{-1, 0, 1} {
		write("b", n, sec(1)).refused(t, d, api.ErrSector)
		read("b", n).refused(t, d, api.ErrSector)
	}
}

// Rule 3: Write keeps none of what it is handed, Read, Names and Save hand out none of what is kept.
func TestNothingIsShared(t *testing.T) {
	d := with(t, 10, 2)
	room := bytes.Repeat([]byte{9}, 100)
	p := room[:api.SectorSize]
	done(t, d.Write("a", 0, p))
	if !bytes.Equal(room, bytes.Repeat([]byte{9}, 100)) {
		t.Error("Write changed what it was handed")
	}
	was := look(d)
	clear(room)
	got, _ := d.Read("a", 0)
	_ = append(got, 1, 2, 3)
	clear(got)
	names := d.Names()
	names[0] = "z"
	if look(d) != was {
		t.Error("it is another disk as what was handed to or fro is changed")
	}
	done(t, d.Sync("a"))
	was = look(d)
	got, _ = d.Read("a", 0)
	clear(got)
	clear(d.Save())
	if look(d) != was {
		t.Error("it is another disk as what is safe was handed out, and changed")
	}
	keep := []int{3, 1, 1, 0, -1}
	d.Crash(0, keep...)
	if !slices.Equal(keep, []int{3, 1, 1, 0, -1}) {
		t.Error("Crash changed its list")
	}
}

// P4.4: Sync of one file alone, and its errors.
func TestSync(t *testing.T) {
	d := with(t, 10, 2)
	done(t, d.Create("b"), d.Grow("b", 2), d.SyncDir())
	done(t, d.Write("a", 0, sec('p')), d.Write("b", 0, sec('q')), d.Write("a", 1, sec('r')), d.Write("a", 0, sec('s')), d.Write("b", 1, sec('t')))
	sync("c").refused(t, d, api.ErrNone)
	sync("").refused(t, d, api.ErrNone)
	was := files(d)
	done(t, d.Sync("a"))
	if files(d) != was {
		t.Error("Sync changed what is now")
	}
	pending(t, d, 2, 0)
	behind(t, d, "a 73 72; b 00 00", 0)
	behind(t, d, "a 73 72; b 00 74", 0, 1)
	done(t, d.Sync("a"), d.Sync("b"), d.Sync("b"))
	pending(t, d, 0, 0)
	behind(t, d, "a 73 72; b 71 74", 0)
}

// P4.4: Sync has no part in the directory, SyncDir none in writes.
func TestSyncDir(t *testing.T) {
	d := with(t, 10, 1)
	done(t, d.Create("b"), d.Grow("b", 1), d.Write("b", 0, sec('x')), d.Sync("b"), d.Write("a", 0, sec('y')), d.Rename("a", "c"))
	pending(t, d, 1, 2)
	behind(t, d, "a 79", 0, 0)
	behind(t, d, "a 00; b 78", 1)
	done(t, d.SyncDir())
	pending(t, d, 1, 0)
	behind(t, d, "b 78; c 00", 0)
	done(t, d.SyncDir())
	pending(t, d, 1, 0)
}

// P4.2: a write is pending till it is synced, or the power fails, whatever becomes of its file's name.
func TestWritesOfFilesThatAreGone(t *testing.T) {
	d := with(t, 10, 1)
	done(t, d.Write("a", 0, sec('x')), d.Remove("a"), d.Create("b"), d.Grow("b", 1), d.Write("b", 0, sec('y')), d.SyncDir())
	pending(t, d, 2, 0)
	behind(t, d, "b 00", 0, 0)
	behind(t, d, "b 79", 0, 1)
}

// P4.2 to P4.4: Len, as it is asked of a name that is there, and of one that is not.
func TestLen(t *testing.T) {
	d := with(t, 10, 3)
	if n, err := d.Len("a"); n != 3 || err != nil {
		t.Errorf("%d, %v", n, err)
	}
	for _, name := range []string{"", "b", "A", strings.Repeat("a", 17)} {
		n, err := d.Len(name)
		if n != 0 {
			t.Errorf("Len(%q) = %d", name, n)
		}
		faulty(t, err, "len", name, api.ErrNone)
	}
}

// eight are the calls that an armed disk counts: first as they go well on a disk with a file a of two sectors, then as they do not.
func eight() [][2]call {
	return [][2]call{
		{create("b"), create("A")},
		{create("b"), create("a")},
		{remove("a"), remove("b")},
		{rename("a", "b"), rename("b", "")},
		{rename("a", "b"), rename("a", "")},
		{grow("a", 3), grow("b", 3)},
		{grow("a", 3), grow("a", -1)},
		{grow("a", 3), grow("a", 11)},
		{write("a", 1, sec(1)), write("b", 1, nil)},
		{write("a", 1, sec(1)), write("a", 2, nil)},
		{write("a", 1, sec(1)), write("a", 1, nil)},
		{read("a", 1), read("b", 1)},
		{read("a", 1), read("a", -1)},
		{sync("a"), sync("b")},
		{syncDir(), syncDir()},
	}
}

// P4.5: each of the calls that count is refused, ahead of all its own errors, once; and those that go ahead count whatever comes of them.
func TestArm(t *testing.T) {
	for _, code := range []api.Errno{api.ErrIO, api.ErrFull} {
		for i, pair := range eight() {
			for _, last := range pair {
				for after := range 4 {
					d, e := with(t, 10, 2), with(t, 10, 2)
					done(t, d.Write("a", 0, sec('x')), e.Write("a", 0, sec('x')))
					d.Arm(after, code)
					for j := range after {
						ahead := eight()[(i+j)%len(eight())][1] // these fail, but for syncDir
						if one, two := fmt.Sprint(ahead.do(d)), fmt.Sprint(ahead.do(e)); one != two {
							t.Fatalf("%s ahead of the refusal: %s, not %s", ahead.op, one, two)
						}
					}
					faulty(t, last.do(d), last.op, last.name, code)
					if look(d) != look(e) {
						t.Fatalf("%s was refused, and has done something", last.op)
					}
					if one, two := fmt.Sprint(last.do(d)), fmt.Sprint(last.do(e)); one != two || look(d) != look(e) {
						t.Fatalf("%s behind the refusal: %s, not %s", last.op, one, two)
					}
				}
			}
		}
	}
}

// P4.5: calls that go well count as well, and do what they do.
func TestArmBehindCallsThatGoWell(t *testing.T) {
	d, e := with(t, 10, 2), with(t, 10, 2)
	d.Arm(9, api.ErrFull)
	for _, c := range []call{create("b"), rename("b", "c"), grow("c", 2), write("c", 1, sec(1)), read("c", 1), sync("c"), syncDir(), remove("c"), create("d")} {
		done(t, c.do(d), c.do(e))
	}
	syncDir().answers(t, d, api.ErrFull)
	if look(d) != look(e) {
		t.Error("it is another disk than one that was not armed")
	}
	done(t, d.SyncDir())
}

// P4.5: which codes and counts arm a disk, and that others disarm it.
func TestArmWithOthers(t *testing.T) {
	for _, after := range []int{math.MinInt, -2, -1, 0, 1, math.MaxInt} {
		for _, code := range []api.Errno{api.OK, api.ErrArg, api.ErrNone, api.ErrThere, api.ErrIO, api.ErrFull, api.ErrSector, api.ErrSaved, -1, -41, 1 << 40} {
			d := with(t, 10, 2)
			d.Arm(0, api.ErrIO)
			d.Arm(after, code)
			armed := after >= 0 && (code == api.ErrIO || code == api.ErrFull)
			for i := range 4 {
				if armed && i == after {
					syncDir().answers(t, d, code)
					continue
				}
				done(t, d.SyncDir())
			}
		}
	}
	d := with(t, 10, 2)
	d.Arm(1, api.ErrIO)
	d.Arm(2, api.ErrFull) // counts anew
	done(t, d.SyncDir(), d.SyncDir())
	syncDir().answers(t, d, api.ErrFull)
}

// P4.5: calls that do not count, and are not refused.
func TestArmAndOtherCalls(t *testing.T) {
	d := with(t, 10, 2)
	done(t, d.Write("a", 1, sec(1)))
	d.Arm(0, api.ErrIO)
	d.Names()
	if n, err := d.Len("a"); n != 2 || err != nil {
		t.Errorf("%d, %v", n, err)
	}
	_, err := d.Len("b")
	faulty(t, err, "len", "b", api.ErrNone)
	d.Pending()
	d.Save()
	c := d.Copy()
	syncDir().answers(t, d, api.ErrIO)
	syncDir().answers(t, c, api.ErrIO) // a copy is armed as well, for itself
	done(t, d.SyncDir(), c.SyncDir())
	d.Arm(2, api.ErrFull)
	c = d.Copy()
	done(t, c.SyncDir(), c.SyncDir(), d.SyncDir(), d.SyncDir())
	syncDir().answers(t, c, api.ErrFull)
	syncDir().answers(t, d, api.ErrFull)
	d.Arm(0, api.ErrIO)
	d.Crash(0)
	done(t, d.SyncDir(), d.Sync("a"))
	d.Arm(0, api.ErrIO)
	d.Crash(0)
	d.Arm(1, api.ErrIO)
	done(t, d.SyncDir())
	syncDir().answers(t, d, api.ErrIO)
	if two, err := disk.Load(10, d.Save()); err != nil || two.SyncDir() != nil {
		t.Error("what is loaded is armed, or is not", err)
	}
}

// The chapter's example: of two writes the second one is kept.
func TestExample(t *testing.T) {
	d := with(t, 2, 2)
	done(t, d.Write("a", 0, sec('x')), d.Write("a", 1, sec('y')))
	d.Crash(0, 1)
	shows(t, d, "a 00 79")
	pending(t, d, 0, 0)
}

// P4.6: which writes are kept: places that are none, that stand there twice, in whatever order.
func TestCrashKeeps(t *testing.T) {
	d := with(t, 2, 2)
	done(t, d.Write("a", 0, sec(1)), d.Sync("a"), d.Write("a", 0, sec(2)), d.Write("a", 1, sec(3)), d.Write("a", 0, sec(4)), d.Write("a", 1, sec(5)))
	for _, c := range []struct {
		keep []int
		want string
	}{
		{nil, "a 01 00"},
		{[]int{}, "a 01 00"},
		{[]int{-1, 4, 5, math.MaxInt, math.MinInt}, "a 01 00"},
		{[]int{0}, "a 02 00"},
		{[]int{1}, "a 01 03"},
		{[]int{2}, "a 04 00"},
		{[]int{3}, "a 01 05"},
		{[]int{0, 2}, "a 04 00"},
		{[]int{2, 0}, "a 04 00"}, // in their order, not in keep's
		{[]int{3, 2, 1, 0}, "a 04 05"},
		{[]int{2, 0, 0, 2, 0}, "a 04 00"},
		{[]int{1, 1, 1}, "a 01 03"},
		{[]int{7, 0, -3, 1, 4}, "a 02 03"},
	} {
		behind(t, d, c.want, 0, c.keep...)
		again := d.Copy()
		again.Crash(0, c.keep...)
		behind(t, again, c.want, 9, 0, 1, 2, 3) // nothing is pending any more
	}
}

// P4.6: how many changes are safe: none below 0, all above their number.
func TestCrashChanges(t *testing.T) {
	d := with(t, 9, 1)
	done(t, d.Create("b"), d.Grow("b", 2), d.Rename("a", "b"), d.Create("c"), d.Remove("b"))
	for changes, want := range map[int]string{
		math.MinInt: "a 00", -1: "a 00", 0: "a 00", 1: "a 00; b 00 00", 2: "b 00", 3: "b 00; c", 4: "c", 5: "c", 100: "c", math.MaxInt: "c",
	} {
		behind(t, d, want, changes)
		c := d.Copy()
		c.Crash(changes)
		if look(c) != look(load(t, 9, c.Save())) {
			t.Errorf("crash behind %d changes: not all is safe", changes)
		}
	}
}

// P4.6: files that the safe directory does not name are gone, and leave their room.
func TestCrashTakesFilesAway(t *testing.T) {
	d := with(t, 4, 1)
	done(t, d.Create("b"), d.Grow("b", 3), d.Write("b", 0, sec(1)), d.Sync("b"))
	grow("a", 2).refused(t, d, api.ErrFull)
	d.Crash(0, 0)
	remove("b").refused(t, d, api.ErrNone)
	done(t, d.Create("b"), d.Grow("a", 4))
	if n, err := d.Len("b"); n != 0 || err != nil {
		t.Errorf("a new file of an old name has %d sectors, %v", n, err)
	}
}

// Every call of a nil Disk.
func TestNil(t *testing.T) {
	var d *disk.Disk
	for _, pair := range eight() {
		for _, c := range pair {
			faulty(t, c.do(d), c.op, c.name, api.ErrNone)
		}
	}
	n, err := d.Len("a")
	faulty(t, err, "len", "a", api.ErrNone)
	p, err := d.Read("a", 0)
	faulty(t, err, "read", "a", api.ErrNone)
	w, c := d.Pending()
	if n != 0 || p != nil || w != 0 || c != 0 || len(d.Names()) != 0 || d.Copy() != nil || len(d.Save()) != 0 {
		t.Error(n, p, w, c, d.Names(), d.Copy(), d.Save())
	}
	d.Arm(0, api.ErrIO)
	d.Crash(3, 1, 2)
	faulty(t, d.SyncDir(), "syncdir", "", api.ErrNone)
}
