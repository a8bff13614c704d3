package tests

import (
	"math"
	"slices"
	"strconv"
	"strings"
	"testing"

	"loop.example/g00772/impl"
)

// longestEntry is the length of the longest string that has an entry.
const longestEntry = 65531

// otherRooms are capacities that no disk has.
var otherRooms = []int{-1, -2, -4000, 4001, 4002, 65536, math.MinInt32, 1 << 32, math.MinInt64, math.MinInt64 + 1, math.MaxInt64 - 1, math.MaxInt64}

// someRooms are capacities that disks have.
var someRooms = []int{0, 1, 2, 3, 6, 7, 40, 255, 256, 3999, 4000}

// entryOf is the tests' own Entry.
func entryOf(s string) string {
	if len(s) > longestEntry {
		return ""
	}
	return textBytes(sealedRight(s))
}

// entriesOf returns the entries of all strings, one behind the other.
func entriesOf(list ...string) string {
	var text strings.Builder
	for _, s := range list {
		text.WriteString(entryOf(s))
	}
	return text.String()
}

// diskOk is the tests' own DiskOk.
func diskOk(d impl.Disk) bool {
	if d.Room < 0 || d.Room > 4000 {
		return false
	}
	return len(d.Snap+d.Kept+d.Loose) <= d.Room
}

// appendOf is the tests' own Append.
func appendOf(d impl.Disk, s string) (impl.Disk, bool) {
	next := impl.Disk{Room: d.Room, Snap: d.Snap, Kept: d.Kept, Loose: d.Loose + entryOf(s)}
	if entryOf(s) == "" || !diskOk(d) || !diskOk(next) {
		return d, false
	}
	return next, true
}

// crashOf is the tests' own Crash.
func crashOf(d impl.Disk, keep int) impl.Disk {
	if !diskOk(d) {
		return d
	}
	kept := d.Kept
	for i := range len(d.Loose) {
		if i < keep {
			kept += d.Loose[i : i+1]
		}
	}
	return impl.Disk{Room: d.Room, Snap: d.Snap, Kept: kept}
}

// syncOf is the tests' own Sync.
func syncOf(d impl.Disk) impl.Disk {
	if !diskOk(d) {
		return d
	}
	return impl.Disk{Room: d.Room, Snap: d.Snap, Kept: d.Kept + d.Loose}
}

// scanOf is the tests' own Scan.
func scanOf(s string) ([]string, int) {
	var list []string
	at := 0
	for len(s)-at >= 6 {
		end := at + 2 + int(s[at])*256 + int(s[at+1])
		if end < at+6 || end > len(s) {
			break
		}
		body := s[at+2 : end-4]
		if s[at:end] != entryOf(body) {
			break
		}
		list = append(list, body)
		at = end
	}
	return list, at
}

// recoverOf is the tests' own Recover.
func recoverOf(d impl.Disk) (impl.Disk, []string) {
	if !diskOk(d) {
		return d, nil
	}
	list, length := scanOf(d.Kept)
	return impl.Disk{Room: d.Room, Snap: d.Snap, Kept: d.Kept[:length]}, list
}

// installOf is the tests' own Install.
func installOf(d impl.Disk, snap string) (impl.Disk, bool) {
	both := d
	both.Snap += snap
	if !diskOk(d) || !diskOk(both) {
		return d, false
	}
	return impl.Disk{Room: d.Room, Snap: snap}, true
}

// diskText returns d with the lengths and the beginnings of its strings, to be
// printed.
func diskText(d impl.Disk) string {
	text := "room " + strconv.Itoa(d.Room)
	for _, s := range []string{d.Snap, d.Kept, d.Loose} {
		text += ", " + strconv.Itoa(len(s)) + " " + strconv.Quote(s[:min(len(s), 24)])
	}
	return text
}

func checkSameDisk(t *testing.T, what string, got impl.Disk, want impl.Disk) {
	t.Helper()
	if got != want {
		t.Errorf("%s: the disk is %s, want %s", what, diskText(got), diskText(want))
	}
}

func checkDiskOk(t *testing.T, d impl.Disk) {
	t.Helper()
	if got := impl.DiskOk(d); got != diskOk(d) {
		t.Errorf("DiskOk(%s) = %v", diskText(d), got)
	}
}

func checkAppend(t *testing.T, what string, d impl.Disk, s string, want impl.Disk, ok bool) {
	t.Helper()
	got, gotOk := impl.Append(d, s)
	if gotOk != ok {
		t.Errorf("%s: Append(%s, %.40q) = %v, want %v", what, diskText(d), s, gotOk, ok)
	}
	checkSameDisk(t, what+", Append", got, want)
}

func checkInstall(t *testing.T, what string, d impl.Disk, snap string, want impl.Disk, ok bool) {
	t.Helper()
	got, gotOk := impl.Install(d, snap)
	if gotOk != ok {
		t.Errorf("%s: Install(%s, %.40q) = %v, want %v", what, diskText(d), snap, gotOk, ok)
	}
	checkSameDisk(t, what+", Install", got, want)
}

func checkScan(t *testing.T, what string, s string, want []string, length int) {
	t.Helper()
	got, gotLength := impl.Scan(s)
	if !slices.Equal(got, want) || gotLength != length {
		t.Errorf("%s: Scan(%.60q) = %.100q, %d, want %.100q, %d", what, s, got, gotLength, want, length)
	}
}

func checkRecover(t *testing.T, what string, d impl.Disk, want impl.Disk, list []string) {
	t.Helper()
	got, gotList := impl.Recover(d)
	if !slices.Equal(gotList, list) {
		t.Errorf("%s: Recover(%s) has %.100q, want %.100q", what, diskText(d), gotList, list)
	}
	checkSameDisk(t, what+", Recover", got, want)
}

// checkScanLikeModel scans s as scanOf does, and returns the number of entries.
func checkScanLikeModel(t *testing.T, what string, s string) int {
	t.Helper()
	list, length := scanOf(s)
	checkScan(t, what, s, list, length)
	return len(list)
}

// checkLikeModels compares every function of a disk with its model.
func checkLikeModels(t *testing.T, what string, d impl.Disk, s string, keep int) {
	t.Helper()
	checkDiskOk(t, d)
	next, ok := appendOf(d, s)
	checkAppend(t, what, d, s, next, ok)
	next, ok = installOf(d, s)
	checkInstall(t, what, d, s, next, ok)
	checkSameDisk(t, what+", Sync", impl.Sync(d), syncOf(d))
	checkSameDisk(t, what+", Crash "+strconv.Itoa(keep), impl.Crash(d, keep), crashOf(d, keep))
	next, list := recoverOf(d)
	checkRecover(t, what, d, next, list)
}

// keepsOf returns numbers of bytes below, inside and beyond the Loose of d.
func keepsOf(d impl.Disk) []int {
	n := len(d.Loose)
	keeps := []int{-1, -2, -n, -n - 1, n + 1, n + 2, 2*n + 1, 4000, 4001, 1 << 32, math.MinInt64, math.MinInt64 + 1, math.MaxInt64 - 1, math.MaxInt64}
	for keep := range n + 1 {
		keeps = append(keeps, keep)
	}
	return keeps
}

// someTexts returns strings with an entry, some of which look like entries or
// contain them.
func someTexts() []string {
	return []string{
		"", "a", "\x00", "\xff", "\x00\x04\x00\x00\x00\x00", "one", "sixteen is much!", "\n", "123456789",
		entryOf(""), entryOf("a"), entriesOf("a", "b"), sealedRight("a"), textBytes("a"), entryOf("abc")[:7],
		strings.Repeat("\x00", 20), strings.Repeat("\xff", 251), strings.Repeat("z", 252), strings.Repeat("y", 253), someBytes(600, 91),
	}
}

// someDisks returns valid disks: empty ones, full ones, ones with whole and with
// cut entries and with other bytes in every field.
func someDisks() map[string]impl.Disk {
	entries := entriesOf("one", "", "three")
	return map[string]impl.Disk{
		"zero":                 {},
		"empty":                {Room: 4000},
		"a snapshot":           {Room: 100, Snap: "snapshot"},
		"kept entries":         {Room: 100, Kept: entries},
		"loose entries":        {Room: 100, Loose: entries},
		"all three":            {Room: 100, Snap: "snap", Kept: entries, Loose: entriesOf("four", "five")},
		"cut kept":             {Room: 100, Snap: "snap", Kept: entries[:len(entries)-1], Loose: entryOf("four")},
		"cut loose":            {Room: 100, Kept: entryOf("one"), Loose: entries[:12]},
		"one entry in two":     {Room: 100, Kept: entries[:5], Loose: entries[5:]},
		"no entries":           {Room: 40, Snap: "\x00", Kept: "kept", Loose: "loose"},
		"a damaged first":      {Room: 100, Kept: flipped(entries, 17), Loose: entryOf("four")},
		"a damaged second":     {Room: 100, Kept: flipped(entries, 8*9+30), Loose: entryOf("four")},
		"full of a snapshot":   {Room: 9, Snap: "123456789"},
		"full of kept":         {Room: 9, Kept: entryOf("one")},
		"full of loose":        {Room: 9, Loose: entryOf("one")},
		"full of all":          {Room: 20, Snap: "ab", Kept: entryOf("one"), Loose: entryOf("two")},
		"full and greatest":    {Room: 4000, Snap: someBytes(1000, 92), Kept: entryOf(someBytes(1494, 93)), Loose: entryOf(someBytes(1494, 94))},
		"greatest, one entry":  {Room: 4000, Kept: entryOf(someBytes(3994, 95))},
		"greatest, many":       {Room: 4000, Kept: strings.Repeat(entryOf(""), 666), Loose: "\x00\x04\x00\x00"},
		"room for one byte":    {Room: 28, Snap: "snap", Kept: entryOf("one"), Loose: entryOf("five") + "\x00\x04\x00\x00"},
		"room for six bytes":   {Room: 25, Snap: "snap", Kept: entryOf("one"), Loose: entryOf("")},
		"room for five bytes":  {Room: 24, Snap: "snap", Kept: entryOf("one"), Loose: entryOf("")},
		"entries in all three": {Room: 60, Snap: entryOf("snap"), Kept: entryOf("kept"), Loose: entryOf("loose")},
	}
}

// invalidDisks returns disks that are not valid, each for one reason.
func invalidDisks() map[string]impl.Disk {
	entry := entryOf("one")
	disks := map[string]impl.Disk{
		"no room for a snapshot":     {Room: 2, Snap: "abc"},
		"no room for kept":           {Room: 8, Kept: entry},
		"no room for loose":          {Room: 8, Loose: entry},
		"no room for kept and loose": {Room: 17, Kept: entry, Loose: entry},
		"no room for snap and kept":  {Room: 12, Snap: "snap", Kept: entry},
		"no room for snap and loose": {Room: 12, Snap: "snap", Loose: entry},
		"no room for all":            {Room: 21, Snap: "snap", Kept: entry, Loose: entry},
		"no room at all":             {Snap: "s"},
		"no room, kept":              {Kept: entry},
		"no room, loose":             {Loose: entry},
		"4001 bytes":                 {Room: 4000, Snap: strings.Repeat("s", 4001)},
		"4001 bytes of all":          {Room: 4000, Snap: strings.Repeat("s", 2001), Kept: strings.Repeat(entryOf(""), 200), Loose: strings.Repeat("\x00", 800)},
		"much more":                  {Room: 4000, Kept: someBytes(100000, 96)},
	}
	for _, room := range otherRooms {
		name := "Room " + strconv.Itoa(room)
		disks[name] = impl.Disk{Room: room}
		disks[name+" and all"] = impl.Disk{Room: room, Snap: "snap", Kept: entry, Loose: entry + "\x00"}
		disks[name+" and cut entries"] = impl.Disk{Room: room, Kept: entry[:8], Loose: entry[:5]}
		disks[name+" and more"] = impl.Disk{Room: room, Loose: someBytes(5000, 97)}
	}
	return disks
}

func TestMaxRoom(t *testing.T) {
	if impl.MaxRoom != 4000 {
		t.Errorf("MaxRoom is %d", impl.MaxRoom)
	}
}

func TestDiskOk(t *testing.T) {
	for what, d := range someDisks() {
		if !impl.DiskOk(d) || !diskOk(d) {
			t.Errorf("%s: DiskOk(%s) = false", what, diskText(d))
		}
	}
	for what, d := range invalidDisks() {
		if impl.DiskOk(d) || diskOk(d) {
			t.Errorf("%s: DiskOk(%s) = true", what, diskText(d))
		}
	}
}

// TestDiskRooms meets and exceeds every Room with each field alone and with all.
func TestDiskRooms(t *testing.T) {
	bytes := strings.Repeat("a", 8000)
	for _, room := range append(someRooms, otherRooms...) {
		for _, length := range []int{0, 1, 2, room - 1, room, room + 1, 3999, 4000, 4001} {
			if length < 0 || length > 4002 {
				continue
			}
			checkDiskOk(t, impl.Disk{Room: room, Snap: bytes[:length]})
			checkDiskOk(t, impl.Disk{Room: room, Kept: bytes[:length]})
			checkDiskOk(t, impl.Disk{Room: room, Loose: bytes[:length]})
			third, half := length/3, length/2
			checkDiskOk(t, impl.Disk{Room: room, Snap: bytes[:third], Kept: bytes[:third], Loose: bytes[:length-2*third]})
			checkDiskOk(t, impl.Disk{Room: room, Snap: bytes[:half], Kept: bytes[:length-half]})
			checkDiskOk(t, impl.Disk{Room: room, Snap: bytes[:half], Loose: bytes[:length-half]})
			checkDiskOk(t, impl.Disk{Room: room, Kept: bytes[:half], Loose: bytes[:length-half]})
		}
	}
}

// TestDiskFields combines lengths of all fields with every Room.
func TestDiskFields(t *testing.T) {
	bytes := strings.Repeat("a", 4001)
	lengths := []int{0, 1, 2, 3, 1333, 1334, 2000, 3998, 3999, 4000, 4001}
	rooms := []int{-1, 0, 1, 2, 3, 4, 5, 6, 9, 3999, 4000, 4001, math.MinInt64, math.MaxInt64}
	valid := 0
	for _, room := range rooms {
		for _, snap := range lengths {
			for _, kept := range lengths {
				for _, loose := range lengths {
					d := impl.Disk{Room: room, Snap: bytes[:snap], Kept: bytes[:kept], Loose: bytes[:loose]}
					checkDiskOk(t, d)
					if impl.DiskOk(d) {
						valid++
					}
				}
			}
		}
	}
	// So many triples of lengths fit in each valid Room.
	if want := 1 + 4 + 10 + 20 + 32 + 44 + 54 + 64 + 317 + 341; valid != want {
		t.Errorf("%d disks are valid, want %d", valid, want)
	}
}

func TestEntry(t *testing.T) {
	rows := map[string]string{
		"":          "\x00\x04\x00\x00\x00\x00",
		"123456789": "\x00\x0d123456789\x83\x92\x06\xe3",
		"a":         "\x00\x05a\x30\x43\xd0\xc1",
		"\x00":      "\x00\x05\x00\x51\x53\x7d\x52",
	}
	for s, want := range rows {
		if got := impl.Entry(s); got != want || entryOf(s) != want {
			t.Errorf("Entry(%q) = %q, want %q", s, got, want)
		}
	}
	for _, s := range someTexts() {
		if got := impl.Entry(s); got != entryOf(s) {
			t.Errorf("Entry(%.40q) = %.60q, want %.60q", s, got, entryOf(s))
		}
	}
	for b := range 256 {
		s := string([]byte{byte(b)})
		if got := impl.Entry(s); got != entryOf(s) || len(got) != 7 {
			t.Errorf("Entry(%q) = %q", s, got)
		}
	}
}

// TestEntryLengths has the entries of strings up to the longest one, and none of
// longer ones.
func TestEntryLengths(t *testing.T) {
	bytes := someBytes(1<<20, 98)
	lengths := []int{1000, 4000, 65000, longestEntry - 2, longestEntry - 1, longestEntry}
	for length := range 600 {
		lengths = append(lengths, length)
	}
	for _, length := range lengths {
		got := impl.Entry(bytes[:length])
		if got != entryOf(bytes[:length]) || len(got) != length+6 {
			t.Errorf("the entry of %d bytes has %d: %.40q", length, len(got), got)
		}
	}
	for _, length := range []int{longestEntry + 1, longestEntry + 2, longestEntry + 3, 65535, 65536, 65537, 65536 + longestEntry, 1 << 17, 1 << 20} {
		if got := impl.Entry(bytes[:length]); got != "" {
			t.Errorf("the entry of %d bytes has %d", length, len(got))
		}
	}
}

func TestAppend(t *testing.T) {
	d := impl.Disk{Room: 30, Snap: "snap", Kept: "kept"}
	first := impl.Disk{Room: 30, Snap: "snap", Kept: "kept", Loose: "\x00\x05a\x30\x43\xd0\xc1"}
	second := first
	second.Loose += "\x00\x04\x00\x00\x00\x00"
	checkAppend(t, "the first", d, "a", first, true)
	checkAppend(t, "the second", first, "", second, true)
	checkAppend(t, "no room for a third", second, "abcd", second, false)
	checkAppend(t, "just room for a third", second, "abc", impl.Disk{Room: 30, Snap: "snap", Kept: "kept", Loose: second.Loose + entryOf("abc")}, true)
}

// TestAppendAtEveryRoom appends strings to disks with room for the entry, with
// just that room, and with less.
func TestAppendAtEveryRoom(t *testing.T) {
	for what, d := range someDisks() {
		used := len(d.Snap) + len(d.Kept) + len(d.Loose)
		for _, s := range someTexts() {
			need := used + len(s) + 6
			for _, room := range []int{used - 1, used, used + 1, need - 2, need - 1, need, need + 1, 4000, 4001} {
				d.Room = room
				ok := room >= need && room <= 4000
				want := d
				if ok {
					want.Loose += entryOf(s)
				}
				checkAppend(t, what, d, s, want, ok)
			}
		}
	}
}

// TestAppendLengths appends strings of every length to an empty disk of every
// length's room.
func TestAppendLengths(t *testing.T) {
	bytes := someBytes(65600, 99)
	for _, room := range someRooms {
		for length := max(room-20, 0); length < room+10; length++ {
			d := impl.Disk{Room: room}
			want, ok := appendOf(d, bytes[:length])
			if ok != (length+6 <= room) {
				t.Fatalf("the model has %v for %d bytes in %d", ok, length, room)
			}
			checkAppend(t, "a length", d, bytes[:length], want, ok)
		}
	}
	for _, length := range []int{3994, 3995, 4000, 65530, longestEntry, longestEntry + 1, longestEntry + 2, 65535, 65536, 65600} {
		for what, d := range someDisks() {
			want, ok := appendOf(d, bytes[:length])
			checkAppend(t, what, d, bytes[:length], want, ok)
		}
	}
}

// TestAppendWithoutEntry has no entry to append, so that even a full disk could
// take its bytes.
func TestAppendWithoutEntry(t *testing.T) {
	for what, d := range someDisks() {
		for _, length := range []int{longestEntry + 1, 65536, 1 << 17} {
			checkAppend(t, what, d, strings.Repeat("a", length), d, false)
		}
	}
}

// TestAppendOneByOne fills disks until there is no room.
func TestAppendOneByOne(t *testing.T) {
	for _, room := range []int{0, 5, 6, 40, 1000, 4000} {
		d, loose := impl.Disk{Room: room, Kept: entryOf("")[:min(room, 6)]}, ""
		for n := 0; ; n++ {
			s := someBytes(n%13, uint32(n))
			next, ok := impl.Append(d, s)
			if len(d.Kept)+len(loose)+len(s)+6 > room {
				checkAppend(t, "full", d, s, d, false)
				break
			}
			loose += entryOf(s)
			if !ok || next.Loose != loose || next.Kept != d.Kept || !impl.DiskOk(next) {
				t.Fatalf("Append of string %d = %s, %v", n, diskText(next), ok)
			}
			d = next
		}
		list, length := impl.Scan(loose)
		if length != len(loose) {
			t.Errorf("%d of %d bytes are entries", length, len(loose))
		}
		for n, s := range list {
			if s != someBytes(n%13, uint32(n)) {
				t.Errorf("string %d is %q", n, s)
			}
		}
	}
}

func TestSync(t *testing.T) {
	checkSameDisk(t, "both", impl.Sync(impl.Disk{Room: 9, Snap: "s", Kept: "ab", Loose: "cde"}), impl.Disk{Room: 9, Snap: "s", Kept: "abcde"})
	checkSameDisk(t, "loose", impl.Sync(impl.Disk{Room: 3, Loose: "cde"}), impl.Disk{Room: 3, Kept: "cde"})
	checkSameDisk(t, "kept", impl.Sync(impl.Disk{Room: 2, Kept: "ab"}), impl.Disk{Room: 2, Kept: "ab"})
	for what, d := range someDisks() {
		synced := impl.Sync(d)
		checkSameDisk(t, what, synced, impl.Disk{Room: d.Room, Snap: d.Snap, Kept: d.Kept + d.Loose})
		checkSameDisk(t, what+", twice", impl.Sync(synced), synced)
		if !impl.DiskOk(synced) {
			t.Errorf("%s: Sync makes the disk invalid", what)
		}
	}
}

func TestCrash(t *testing.T) {
	d := impl.Disk{Room: 9, Snap: "s", Kept: "ab", Loose: "cde"}
	for keep, kept := range map[int]string{math.MinInt64: "ab", -1: "ab", 0: "ab", 1: "abc", 2: "abcd", 3: "abcde", 4: "abcde", math.MaxInt64: "abcde"} {
		checkSameDisk(t, "keep "+strconv.Itoa(keep), impl.Crash(d, keep), impl.Disk{Room: 9, Snap: "s", Kept: kept})
	}
	for what, d := range someDisks() {
		for _, keep := range keepsOf(d) {
			name := what + ", keep " + strconv.Itoa(keep)
			crashed := impl.Crash(d, keep)
			checkSameDisk(t, name, crashed, impl.Disk{Room: d.Room, Snap: d.Snap, Kept: d.Kept + d.Loose[:min(max(keep, 0), len(d.Loose))]})
			checkSameDisk(t, name+", once more", impl.Crash(crashed, keep), crashed)
			if !impl.DiskOk(crashed) {
				t.Errorf("%s: Crash makes the disk invalid", name)
			}
		}
	}
}

func TestScan(t *testing.T) {
	a, none := "\x00\x05a\x30\x43\xd0\xc1", "\x00\x04\x00\x00\x00\x00"
	rows := []struct {
		s      string
		list   []string
		length int
	}{
		{"", nil, 0}, {a, []string{"a"}, 7}, {none, []string{""}, 6}, {a + none + a, []string{"a", "", "a"}, 20}, {none + none, []string{"", ""}, 12},
		{a + "x", []string{"a"}, 7}, {"x" + a, nil, 0}, {a + "\x00" + a, []string{"a"}, 7}, {a + a[:6], []string{"a"}, 7}, {a[1:], nil, 0}, {a + none[:5], []string{"a"}, 7},
		{"\x00", nil, 0}, {"\x00\x00", nil, 0}, {"\x00\x00\x00\x00\x00\x00", nil, 0}, {"\x00\x01a", nil, 0}, {"\x00\x03abc", nil, 0}, {"\x00\x03abc" + a, nil, 0},
		{"\x00\x04abcd", nil, 0}, {"\x00\x05abcde" + a, nil, 0}, {a + "\x00\x00" + a, []string{"a"}, 7}, {"junk", nil, 0}, {"\xff\xff" + a, nil, 0}, {"\x00\x05a\xc1\xd0\x43\x30", nil, 0},
		{a + a + "\x00\x05b\x30\x43\xd0\xc1" + a, []string{"a", "a"}, 14}, {"\x05\x00a\x30\x43\xd0\xc1", nil, 0}, {"\x00\x06a\x30\x43\xd0\xc1", nil, 0}, {"\x00\x04a\x30\x43\xd0\xc1", nil, 0},
	}
	for _, row := range rows {
		checkScan(t, "row", row.s, row.list, row.length)
		checkScanLikeModel(t, "row", row.s)
	}
}

// TestScanWhole scans the entries of all texts, in rows of one to many.
func TestScanWhole(t *testing.T) {
	texts := someTexts()
	for from := range texts {
		for to := from; to <= len(texts); to++ {
			s := entriesOf(texts[from:to]...)
			checkScan(t, "whole", s, texts[from:to], len(s))
		}
	}
	bytes := someBytes(longestEntry, 100)
	for _, length := range []int{252, 253, 65530, longestEntry} {
		s := entriesOf(bytes[:length], "behind", bytes[:length])
		checkScan(t, "long", s, []string{bytes[:length], "behind", bytes[:length]}, len(s))
		checkScan(t, "long, cut", s[:len(s)-1], []string{bytes[:length], "behind"}, length+6+12)
	}
	many := make([]string, 20000)
	for i := range many {
		many[i] = strconv.Itoa(i)
	}
	s := entriesOf(many...)
	checkScan(t, "many", s, many, len(s))
}

// TestScanCut cuts entries at every byte: only the whole ones in front count.
func TestScanCut(t *testing.T) {
	texts := []string{"one", "", "a longer one", entryOf("in it"), "\x00", "last"}
	s := entriesOf(texts...)
	for cut := range len(s) + 1 {
		whole, length := 0, 0
		for whole < len(texts) && length+len(texts[whole])+6 <= cut {
			length += len(texts[whole]) + 6
			whole++
		}
		checkScan(t, "cut", s[:cut], texts[:whole], length)
		for _, behind := range []string{"x", "\x00", "\x00\x00", "\xff\xff", strings.Repeat("\xff", 300)} {
			checkScanLikeModel(t, "cut, with bytes behind", s[:cut]+behind)
		}
		checkScanLikeModel(t, "cut, with an entry behind", s[:cut]+entryOf("more"))
	}
}

// TestScanChanged changes every bit and every byte of the second of three entries:
// its length, its string and its seal.
func TestScanChanged(t *testing.T) {
	for _, text := range []string{"", "a", "hello", strings.Repeat("\x00", 9), entryOf(""), entryOf("b"), strings.Repeat("z", 252)} {
		front, back := entryOf("front"), entryOf("back")
		entry := entryOf(text)
		for bit := range 8 * len(entry) {
			checkScan(t, "a changed bit", front+flipped(entry, bit)+back, []string{"front"}, len(front))
			checkScan(t, "a changed bit in front", flipped(entry, bit)+back, nil, 0)
		}
		for i := range entry {
			for b := range 256 {
				changed := entry[:i] + string([]byte{byte(b)}) + entry[i+1:]
				n := checkScanLikeModel(t, "a changed byte", front+changed+back)
				if (n == 3) != (changed == entry) {
					t.Errorf("%d entries with byte %d of %q changed to %d", n, i, entry, b)
				}
			}
		}
	}
}

// TestScanNotSealed has texts of right lengths that are no sealed strings.
func TestScanNotSealed(t *testing.T) {
	front := entryOf("front")
	for _, text := range []string{"", "a", "abc", "abcd", "abcde", sealedRight("a") + "\x00", "\x00" + sealedRight("a"), sealedRight("ab")[1:], sealedAs("a", castagnoli("b")), sealedAs("a", ^castagnoli("a")), strings.Repeat("x", 65535)} {
		s := textBytes(text)
		checkScan(t, "not sealed", s, nil, 0)
		checkScan(t, "not sealed, behind an entry", front+s, []string{"front"}, len(front))
		checkScan(t, "not sealed, between entries", front+s+front, []string{"front"}, len(front))
	}
}

// TestScanEveryShortString scans all strings of up to seven bytes of an alphabet
// in which there are entries.
func TestScanEveryShortString(t *testing.T) {
	found := 0
	for _, s := range shortStrings("\x00\x04\x01", 7) {
		found += checkScanLikeModel(t, "short", s)
		checkScanLikeModel(t, "short, behind an entry", entryOf("")+s)
		checkScanLikeModel(t, "short, before an entry", s+entryOf(""))
	}
	if found == 0 {
		t.Error("there are no entries")
	}
}

// TestScanOfItsBytes scans the bytes that Scan counted: all of them are entries,
// and their strings give the same bytes again.
func TestScanOfItsBytes(t *testing.T) {
	for start := range uint32(300) {
		s := entriesOf(someBytes(int(start)%7, start), "", someBytes(int(start)%50, start+1000)) + someBytes(int(start)%9, start+2000)
		list, length := impl.Scan(s)
		checkScan(t, "the entries alone", s[:length], list, length)
		var again string
		for _, text := range list {
			again += impl.Entry(text)
		}
		if again != s[:length] {
			t.Errorf("the entries of %.60q are %.60q", s, again)
		}
	}
}

func TestRecover(t *testing.T) {
	entries := entriesOf("one", "")
	want := impl.Disk{Room: 50, Snap: "snap", Kept: entries}
	for what, d := range map[string]impl.Disk{
		"recovered":        want,
		"a cut entry":      {Room: 50, Snap: "snap", Kept: entries + entryOf("two")[:8]},
		"a damaged one":    {Room: 50, Snap: "snap", Kept: entries + flipped(entryOf("two"), 20)},
		"loose":            {Room: 50, Snap: "snap", Kept: entries, Loose: entryOf("two")},
		"cut and loose":    {Room: 50, Snap: "snap", Kept: entries + entryOf("two")[:8], Loose: entryOf("two")[8:]},
		"junk and loose":   {Room: 50, Snap: "snap", Kept: entries + "junk", Loose: "junk"},
		"zeros":            {Room: 50, Snap: "snap", Kept: entries + "\x00\x00\x00\x00\x00\x00"},
		"behind a bad one": {Room: 50, Snap: "snap", Kept: entries + "\x00\x00" + entryOf("two")},
	} {
		checkRecover(t, what, d, want, []string{"one", ""})
	}
	checkRecover(t, "zero", impl.Disk{}, impl.Disk{}, nil)
	checkRecover(t, "loose only", impl.Disk{Room: 9, Loose: entryOf("one")}, impl.Disk{Room: 9}, nil)
	checkRecover(t, "junk only", impl.Disk{Room: 9, Snap: "s", Kept: "junk"}, impl.Disk{Room: 9, Snap: "s"}, nil)
	checkRecover(t, "snap of an entry", impl.Disk{Room: 9, Snap: entryOf("one")}, impl.Disk{Room: 9, Snap: entryOf("one")}, nil)
}

// TestRecoverAgain recovers disks that are recovered already.
func TestRecoverAgain(t *testing.T) {
	for what, d := range someDisks() {
		want, list := recoverOf(d)
		checkRecover(t, what, d, want, list)
		checkRecover(t, what+", again", want, want, list)
		if !impl.DiskOk(want) {
			t.Errorf("%s: the recovered disk is invalid", what)
		}
		next, ok := impl.Append(want, "more")
		if ok {
			checkRecover(t, what+", with one more", impl.Sync(next), impl.Sync(next), append(list, "more"))
		}
	}
}

func TestInstall(t *testing.T) {
	d := impl.Disk{Room: 10, Snap: "ab", Kept: "cde", Loose: "f"}
	checkInstall(t, "just room", d, "1234", impl.Disk{Room: 10, Snap: "1234"}, true)
	checkInstall(t, "one byte more", d, "12345", d, false)
	checkInstall(t, "room without the old snapshot", d, "123456", d, false)
	checkInstall(t, "room without the journal", d, "12345678", d, false)
	checkInstall(t, "empty", d, "", impl.Disk{Room: 10}, true)
	checkInstall(t, "no room at all", impl.Disk{}, "", impl.Disk{}, true)
	checkInstall(t, "no room at all for a byte", impl.Disk{}, "1", impl.Disk{}, false)
}

// TestInstallAtEveryRoom installs snapshots on disks with room for them beside
// all that there is, with just that room, and with less.
func TestInstallAtEveryRoom(t *testing.T) {
	for what, d := range someDisks() {
		used := len(d.Snap) + len(d.Kept) + len(d.Loose)
		for _, snap := range append(someTexts(), d.Snap, d.Kept, d.Loose) {
			need := used + len(snap)
			for _, room := range []int{used - 1, used, need - 2, need - 1, need, need + 1, 4000, 4001} {
				d.Room = room
				if room < need || room > 4000 {
					checkInstall(t, what, d, snap, d, false)
					continue
				}
				checkInstall(t, what, d, snap, impl.Disk{Room: room, Snap: snap}, true)
			}
		}
		d.Room = 4000
		for _, length := range []int{4000 - used, 4001 - used, 4000, 4001, 65536, 1 << 20} {
			snap := strings.Repeat("s", length)
			want, ok := installOf(d, snap)
			checkInstall(t, what, d, snap, want, ok)
		}
	}
}

// TestInvalidDisks expects every invalid disk back as it was, in every field,
// also for what would make it valid or change nothing.
func TestInvalidDisks(t *testing.T) {
	for what, d := range invalidDisks() {
		for _, s := range append(someTexts(), d.Snap, strings.Repeat("a", longestEntry+1)) {
			checkAppend(t, what, d, s, d, false)
			checkInstall(t, what, d, s, d, false)
		}
		checkSameDisk(t, what+", Sync", impl.Sync(d), d)
		checkRecover(t, what, d, d, nil)
		for _, keep := range []int{math.MinInt64, -1, 0, 1, len(d.Loose) - 1, len(d.Loose), len(d.Loose) + 1, math.MaxInt64} {
			checkSameDisk(t, what+", Crash", impl.Crash(d, keep), d)
		}
	}
}

// TestDisksLikeModels calls all functions on all disks, valid and invalid ones.
func TestDisksLikeModels(t *testing.T) {
	for _, disks := range []map[string]impl.Disk{someDisks(), invalidDisks()} {
		for what, d := range disks {
			for i, s := range someTexts() {
				checkLikeModels(t, what, d, s, i)
			}
		}
	}
}

// wholeEntries returns how many of the entries of these strings are in the first
// keep bytes.
func wholeEntries(list []string, keep int) int {
	n := 0
	for n < len(list) && keep >= len(list[n])+6 {
		keep -= len(list[n]) + 6
		n++
	}
	return n
}

// TestCrashAtEveryByte checks promise 9 for a crash at each byte of Loose: what was
// synchronized is there, and of the rest what was written as a whole.
func TestCrashAtEveryByte(t *testing.T) {
	texts := someTexts()[:14]
	for synced := range texts {
		d := impl.Disk{Room: 4000, Snap: "snap"}
		for _, s := range texts[:synced] {
			d, _ = impl.Append(d, s)
		}
		d = impl.Sync(d)
		for _, s := range texts[synced:] {
			d, _ = impl.Append(d, s)
		}
		for _, keep := range keepsOf(d) {
			kept := synced + wholeEntries(texts[synced:], min(max(keep, 0), len(d.Loose)))
			want := impl.Disk{Room: 4000, Snap: "snap", Kept: entriesOf(texts[:kept]...)}
			checkRecover(t, "crash at "+strconv.Itoa(keep), impl.Crash(d, keep), want, texts[:kept])
		}
	}
}

// TestSynchronizedSurvive checks promise 9 for long histories: after every crash
// the disk has all synchronized strings and a prefix of the others. What happens
// depends on start alone.
func TestSynchronizedSurvive(t *testing.T) {
	for start := range uint32(60) {
		d := impl.Disk{Room: 300 + 60*int(start)}
		var synced, others []string
		for step, luck := range []byte(someBytes(400, 7000+start)) {
			s := someBytes(int(luck)%23, start*1000+uint32(step))
			switch luck >> 4 {
			case 0, 1:
				d = impl.Sync(d)
				synced, others = append(synced, others...), nil
			case 2, 3, 4:
				keep := (len(d.Loose) + 3) * int(luck%16) / 15
				kept := others[:wholeEntries(others, min(keep, len(d.Loose)))]
				synced, others = slices.Concat(synced, kept), nil
				next, list := impl.Recover(impl.Crash(d, keep))
				if !slices.Equal(list, synced) {
					t.Fatalf("start %d, step %d: %d strings are recovered, want %d", start, step, len(list), len(synced))
				}
				checkSameDisk(t, "recovered", next, impl.Disk{Room: d.Room, Snap: d.Snap, Kept: entriesOf(synced...)})
				d = next
			case 5:
				if next, ok := impl.Install(d, s); ok {
					d, synced, others = next, nil, nil
				}
			default:
				next, ok := impl.Append(d, s)
				if ok {
					others = append(others, s)
				}
				d = next
			}
			if !impl.DiskOk(d) || d.Kept+d.Loose != entriesOf(synced...)+entriesOf(others...) {
				t.Fatalf("start %d, step %d: the disk is %s", start, step, diskText(d))
			}
		}
	}
}

// TestInstallKeepsNoEntries recovers nothing from before a snapshot.
func TestInstallKeepsNoEntries(t *testing.T) {
	for what, d := range someDisks() {
		next, ok := impl.Install(d, "")
		if !ok {
			t.Errorf("%s: there is no room for the empty snapshot", what)
		}
		for _, keep := range []int{0, 9, math.MaxInt64} {
			checkRecover(t, what, impl.Crash(next, keep), impl.Disk{Room: d.Room}, nil)
		}
	}
}

// TestScannedListsShareNothing overwrites one list and what is behind it, and
// expects another one as it was.
func TestScannedListsShareNothing(t *testing.T) {
	spoil := func(list []string) {
		whole := list[:cap(list)]
		for i := range whole {
			whole[i] = "overwritten"
		}
	}
	for what, d := range someDisks() {
		want, list := recoverOf(d)
		_, first := impl.Recover(d)
		second, third := impl.Recover(d)
		fourth, length := impl.Scan(d.Kept)
		spoil(first)
		if !slices.Equal(third, list) || !slices.Equal(fourth, list) || length != len(want.Kept) {
			t.Errorf("%s: the lists are %.60q and %.60q", what, third, fourth)
		}
		spoil(fourth)
		checkSameDisk(t, what, second, want)
		checkRecover(t, what+", later", d, want, list)
	}
}

// TestDisksStay expects that no call changes the disk that it was given.
func TestDisksStay(t *testing.T) {
	for _, disks := range []map[string]impl.Disk{someDisks(), invalidDisks()} {
		for what, d := range disks {
			before := impl.Disk{Room: d.Room, Snap: strings.Clone(d.Snap), Kept: strings.Clone(d.Kept), Loose: strings.Clone(d.Loose)}
			for range 2 {
				checkLikeModels(t, what, d, "more", 3)
				checkSameDisk(t, what+", afterwards", d, before)
			}
		}
	}
}

func FuzzDisk(f *testing.F) {
	for _, disks := range []map[string]impl.Disk{someDisks(), invalidDisks()} {
		for _, d := range disks {
			f.Add(d.Room, d.Snap, d.Kept, d.Loose, "more", 4)
		}
	}
	f.Fuzz(func(t *testing.T, room int, snap string, kept string, loose string, s string, keep int) {
		d := impl.Disk{Room: room, Snap: snap, Kept: kept, Loose: loose}
		checkLikeModels(t, "fuzz", d, s, keep)
		d.Kept = entryOf(snap) + kept
		checkLikeModels(t, "fuzz, an entry", d, s, keep)
		d.Room = len(d.Snap) + len(d.Kept) + len(d.Loose)
		checkLikeModels(t, "fuzz, full", d, s, keep)
		checkScanLikeModel(t, "fuzz", entryOf(s)+kept+loose)
	})
}
