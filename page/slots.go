package page

import (
	"slices"

	"tabellion/api"
)

// isRecord reports whether a slot can hold rec.
func isRecord(rec string) bool { return len(rec) >= 1 && len(rec) <= api.MaxRec }

// beyond is a number of slots that no page has.
const beyond = api.PageSize / perSlot

// Put returns the page with a record in a slot that was free.
func Put(p string, slot int, rec string) (string, api.Errno) {
	if !Right(p) || slot < 0 || !isRecord(rec) {
		return "", api.ErrArg
	}
	if _, occupied := Get(p, slot); occupied {
		return "", api.ErrArg
	}
	if slot >= beyond {
		return "", api.ErrFull
	}
	c := read(p)
	for len(c.recs) <= slot {
		c.recs = append(c.recs, "")
	}
	c.recs[slot] = rec
	return c.made()
}

// Cut returns the page with a slot freed.
func Cut(p string, slot int) (string, api.Errno) {
	if !Right(p) {
		return "", api.ErrArg
	}
	if _, ok := Get(p, slot); !ok {
		return "", api.ErrNone
	}
	c := read(p)
	c.recs[slot] = ""
	return c.made()
}

// Set returns the page with another record in a slot.
func Set(p string, slot int, rec string) (string, api.Errno) {
	if !Right(p) || !isRecord(rec) {
		return "", api.ErrArg
	}
	if _, ok := Get(p, slot); !ok {
		return "", api.ErrNone
	}
	c := read(p)
	c.recs[slot] = rec
	return c.made()
}

// Add returns the page with a record at a place; those from there on have moved up.
func Add(p string, at int, rec string) (string, api.Errno) {
	if !Right(p) || at < 0 || !isRecord(rec) {
		return "", api.ErrArg
	}
	if at >= beyond {
		return "", api.ErrFull
	}
	c := read(p)
	for len(c.recs) < at {
		c.recs = append(c.recs, "")
	}
	c.recs = slices.Insert(c.recs, at, rec)
	return c.made()
}

// Del returns the page without the record at a place; those behind it have moved down.
func Del(p string, at int) (string, api.Errno) {
	if !Right(p) {
		return "", api.ErrArg
	}
	if _, ok := Get(p, at); !ok {
		return "", api.ErrNone
	}
	c := read(p)
	c.recs = slices.Delete(c.recs, at, at+1)
	return c.made()
}
