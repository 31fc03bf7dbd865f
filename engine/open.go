package engine

import (
	"cmp"
	"slices"

	"tabellion/api"
	"tabellion/aries"
	"tabellion/base"
	"tabellion/heap"
	"tabellion/octet"
	"tabellion/parse"
	"tabellion/schema"
)

const (
	directory = 1 // the page at which the directory begins
	number    = 3 // bytes of a number in a directory record
)

// Open recovers the engine on a disk.
func Open(d api.Disk, z api.Size) (api.Engine, api.Errno) {
	s, err := aries.Open(d, z)
	if err != api.OK {
		return api.Engine{Store: s}, err
	}
	s, _, recs, err := heap.Scan(s, directory)
	e := api.Engine{Store: s, Cat: api.Catalog{Next: 1}, Next: 1}
	if err == api.OK {
		e.Cat, e.Roots, err = read(recs)
	}
	if err == api.OK {
		e, err = count(e)
	}
	if err != api.OK {
		return api.Engine{Store: e.Store}, err
	}
	return e, api.OK
}

// created is a statement that created a table or an index, and the catalog's Next before it.
type created struct {
	next int
	text string
}

// read returns the catalog and the roots that the records of a directory state.
func read(recs []string) (api.Catalog, []api.Root, api.Errno) {
	var l []created
	var roots []api.Root
	for _, rec := range recs {
		n, ok := octet.Get(rec, 1, number)
		page, isRoot := octet.Get(rec, 1+number, number)
		switch {
		case ok && rec[0] == 'd':
			l = append(l, created{n, rec[1+number:]})
		case isRoot && rec[0] == 'r' && len(rec) == 1+2*number:
			roots = append(roots, api.Root{Id: n, Page: page})
		default:
			return api.Catalog{}, nil, api.ErrForm
		}
	}
	slices.SortStableFunc(l, func(a, b created) int { return cmp.Compare(a.next, b.next) })
	c := api.Catalog{Next: 1}
	for _, x := range l {
		c.Next = x.next
		var ok bool
		if c, ok = execute(c, x.text); !ok {
			return api.Catalog{}, nil, api.ErrForm
		}
	}
	return c, roots, api.OK
}

// execute returns the catalog after a statement that creates a table or an index.
func execute(c api.Catalog, text string) (api.Catalog, bool) {
	s, _, err := parse.Stmt(text)
	if err != api.OK {
		return c, false
	}
	if s.Kind == api.SIndex {
		c, err = schema.Index(c, s)
	} else {
		c, err = schema.Create(c, s)
	}
	return c, err == api.OK
}

// count determines the numbers of the last commit and of the next row.
func count(e api.Engine) (api.Engine, api.Errno) {
	for _, t := range e.Cat.Tables {
		var l []api.Held
		var err api.Errno
		if e, l, err = base.Load(e, t.Name); err != api.OK {
			return e, err
		}
		for _, h := range l {
			e.Last = max(e.Last, h.V.From, h.V.To)
			e.Next = max(e.Next, h.V.Row+1)
		}
	}
	return e, api.OK
}
