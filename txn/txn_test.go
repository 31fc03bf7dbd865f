package txn

import (
	"fmt"
	"math/rand"
	"reflect"
	"testing"

	"tabellion/api"
	"tabellion/disk"
	"tabellion/log"
)

func store(t *testing.T, sectors int) api.Store {
	t.Helper()
	d, err := disk.New(1 + sectors)
	if err != api.OK {
		t.Fatal(err)
	}
	return api.Store{Size: api.Size{Log: sectors}, Disk: d, Log: log.New(1, sectors), Next: 1}
}

func same(a, b any) bool { return fmt.Sprint(a) == fmt.Sprint(b) }

func last(t *testing.T, s api.Store, lsn int) api.Rec {
	t.Helper()
	r, err := log.Read(s.Disk, s.Log, lsn)
	if err != api.OK {
		t.Fatal(lsn, err)
	}
	return r
}

func TestP42_1(t *testing.T) {
	l := []api.TxnAt{{Txn: 3, Last: 10, Next: 9}, {Txn: 5, Last: 20, Next: 20}, {Txn: 3, Last: 1}}
	for i, c := range []struct {
		r    api.Rec
		want []api.TxnAt
	}{
		{api.Rec{Kind: api.KBegin, Txn: 0, Lsn: 30}, l}, {api.Rec{Kind: api.KBegin, Txn: -3, Lsn: 30}, l}, {api.Rec{Kind: api.KImage, Txn: 3, Lsn: 30}, l}, {api.Rec{Kind: api.KCheck, Txn: 3, Lsn: 30}, l}, {api.Rec{Kind: 0, Txn: 3, Lsn: 30}, l}, {api.Rec{Kind: 10, Txn: 3, Lsn: 30}, l}, {api.Rec{Kind: api.KEnd, Txn: 4, Lsn: 30}, l},
		{api.Rec{Kind: api.KEnd, Txn: 3, Lsn: 30}, []api.TxnAt{l[1], l[2]}}, {api.Rec{Kind: api.KBegin, Txn: 4, Lsn: 30}, append(l[:3:3], api.TxnAt{Txn: 4, Last: 30, Next: 30})}, {api.Rec{Kind: api.KChange, Txn: 5, Lsn: 30, Next: 7}, []api.TxnAt{l[0], {Txn: 5, Last: 30, Next: 30}, l[2]}},
		{api.Rec{Kind: api.KClr, Txn: 3, Lsn: 30, Next: 7}, []api.TxnAt{{Txn: 3, Last: 30, Next: 7}, l[1], l[2]}}, {api.Rec{Kind: api.KNest, Txn: 3, Lsn: 30, Next: 0}, []api.TxnAt{{Txn: 3, Last: 30}, l[1], l[2]}}, {api.Rec{Kind: api.KCommit, Txn: 3, Lsn: 30, Next: 7}, []api.TxnAt{{Txn: 3, Last: 30, Next: 9, Done: true}, l[1], l[2]}},
		{api.Rec{Kind: api.KAbort, Txn: 3, Lsn: 30, Next: 7}, []api.TxnAt{{Txn: 3, Last: 30, Next: 9}, l[1], l[2]}}, {api.Rec{Kind: api.KClr, Txn: 8, Lsn: 30, Next: 7}, append(l[:3:3], api.TxnAt{Txn: 8, Last: 30, Next: 7})}, {api.Rec{Kind: api.KCommit, Txn: 8, Lsn: 30}, append(l[:3:3], api.TxnAt{Txn: 8, Last: 30, Done: true})},
	} {
		if got := Note(l, c.r); !reflect.DeepEqual(got, c.want) {
			t.Errorf("%d: %v", i, got)
		}
	}
	s := api.Store{Txns: l}
	if x, ok := Find(s, 3); !ok || x != l[0] || Mark(s, 3) != 10 {
		t.Error(x, ok)
	}
	if x, ok := Find(s, 4); ok || x != (api.TxnAt{}) || Mark(s, 4) != 0 {
		t.Error(x, ok)
	}
	if len(Note(nil, api.Rec{})) != 0 {
		t.Error("nothing")
	}
}

func TestP42_2(t *testing.T) {
	s := store(t, 4)
	one, n, err := Begin(s)
	if n != 1 || err != api.OK || one.Next != 2 || !same(one.Txns, []api.TxnAt{{Txn: 1, Last: 1, Next: 1}}) || !same(last(t, one, 1), api.Rec{Kind: api.KBegin, Lsn: 1, Txn: 1}) {
		t.Error(n, err, one.Txns)
	}
	two, n, err := Begin(one)
	if n != 2 || err != api.OK || len(two.Txns) != 2 || len(one.Txns) != 1 || last(t, two, 28).Prev != 0 {
		t.Error(n, err)
	}
	for i, bad := range []api.Store{{Next: 1}, {Next: -1, Log: log.New(0, 9)}, {Next: 1 << 40, Log: log.New(0, 9)}} {
		if got, n, err := Begin(bad); n != 0 || err == api.OK || !same(got, bad) {
			t.Error(i, n, err)
		}
	}
}

func TestP42_3(t *testing.T) {
	s, _, _ := Begin(store(t, 4))
	for name, f := range map[string]func(s api.Store, txn int) (api.Store, api.Errno){
		"Nest": func(s api.Store, txn int) (api.Store, api.Errno) { return Nest(s, txn, 0) }, "Abort": Abort, "End": End,
	} {
		got, err := f(s, 1)
		if err != api.OK || got.Log.End <= s.Log.End {
			t.Error(name, err)
		}
		r := last(t, got, 28)
		kinds := map[string]int{"Nest": api.KNest, "Abort": api.KAbort, "End": api.KEnd}
		if r.Kind != kinds[name] || r.Prev != 1 || r.Txn != 1 || !reflect.DeepEqual(append([]api.TxnAt{}, got.Txns...), append([]api.TxnAt{}, Note(s.Txns, r)...)) {
			t.Error(name, r)
		}
		if got, err := f(s, 2); err != api.ErrNone || !same(got, s) {
			t.Error(name, err)
		}
		done := s
		done.Txns = []api.TxnAt{{Txn: 1, Last: 1, Done: true}}
		if _, err := f(done, 1); (err == api.ErrState) != (name != "End") {
			t.Error(name, err)
		}
		full := s
		full.Log.Sectors = 0
		if got, err := f(full, 1); err != api.ErrFull || !same(got, full) {
			t.Error(name, err)
		}
	}
	nested, _ := Nest(s, 1, 0)
	if x, _ := Find(nested, 1); x != (api.TxnAt{Txn: 1, Last: 28, Next: 0}) {
		t.Error(x)
	}
	if nested, _ = Nest(s, 1, 77); last(t, nested, 28).Next != 77 {
		t.Error("the mark")
	}
	if got, err := Nest(s, 1, -1); err != api.ErrArg || !same(got, s) {
		t.Error(err)
	}
}

func TestP42_4(t *testing.T) {
	s, _, _ := Begin(store(t, 4))
	s, _, _ = Begin(s)
	got, err := Commit(s, 1)
	if err != api.OK || !same(got.Txns, []api.TxnAt{s.Txns[1]}) || got.Log.Safe != 81 || got.Log.End != 108 {
		t.Error(err, got.Txns, got.Log)
	}
	if r := last(t, got, 55); r.Kind != api.KCommit || r.Prev != 1 {
		t.Error(r)
	}
	if r := last(t, got, 82); r.Kind != api.KEnd || r.Prev != 55 || r.Txn != 1 {
		t.Error(r)
	}
	if again, err := Commit(got, 1); err != api.ErrNone || !same(again, got) {
		t.Error(err)
	}
	done := s
	done.Txns = []api.TxnAt{{Txn: 1, Done: true}}
	if again, err := Commit(done, 1); err != api.ErrState || !same(again, done) {
		t.Error(err)
	}
	full := s
	full.Log.Sectors = 0
	if again, err := Commit(full, 1); err != api.ErrFull || !same(again, full) {
		t.Error(err)
	}
	// There is room for the KCommit, but not for the KEnd.
	tight := s
	for tight.Log.End < 101-27 {
		tight, _ = Nest(tight, 2, 0)
	}
	tight.Log.Sectors = 1
	if again, err := Commit(tight, 1); err != api.OK || len(again.Txns) != 1 || again.Log.End != tight.Log.End+27 || again.Log.Safe != again.Log.End {
		t.Error(err, again.Log.End)
	}
	armed := s
	armed.Disk = disk.Arm(s.Disk, 1)
	down, err := Commit(armed, 1)
	if err != api.ErrDown || !down.Disk.Down || down.Log.End != 81 || down.Log.Safe != 0 || !same(down.Txns, []api.TxnAt{{Txn: 1, Last: 55, Next: 1, Done: true}, s.Txns[1]}) {
		t.Error(err, down.Txns, down.Log.End)
	}
}

func TestP42_5(t *testing.T) {
	r := rand.New(rand.NewSource(42))
	for range 200 {
		s := store(t, 60)
		if r.Intn(2) == 0 {
			s.Disk = disk.Arm(s.Disk, r.Intn(60))
		}
		committed := map[int]bool{}
		for range 40 {
			txn := 1 + r.Intn(s.Next)
			var err api.Errno
			switch r.Intn(6) {
			case 0, 1:
				s, _, err = Begin(s)
			case 2:
				s, err = Nest(s, txn, Mark(s, txn))
			case 3:
				s, err = Abort(s, txn)
			case 4:
				s, err = End(s, txn)
			case 5:
				s, err = Commit(s, txn)
				if err == api.OK {
					committed[txn] = true
				}
			}
			if err == api.ErrDown {
				break
			}
		}
		down := s.Disk.Down
		s.Disk = disk.Start(s.Disk)
		_, recs, _ := log.Open(s.Disk, 1, 60)
		found := map[int]bool{}
		for _, x := range recs {
			if x.Kind == api.KCommit {
				found[x.Txn] = true
			}
		}
		for txn := range committed {
			if !found[txn] {
				t.Fatal("a commit is not in the log")
			}
		}
		if down {
			continue
		}
		d, l, _ := log.Force(s.Disk, s.Log)
		_, recs, _ = log.Open(d, l.From, l.Sectors)
		var list []api.TxnAt
		for _, x := range recs {
			list = Note(list, x)
		}
		if !same(list, s.Txns) {
			t.Fatal(list, s.Txns)
		}
	}
}
