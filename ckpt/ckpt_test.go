package ckpt

import (
	"fmt"
	"math"
	"math/rand"
	"reflect"
	"strings"
	"testing"

	"tabellion/api"
	"tabellion/disk"
	"tabellion/log"
	"tabellion/octet"
	"tabellion/pool"
	"tabellion/txn"
)

func store(t *testing.T) api.Store {
	t.Helper()
	const sectors = 60
	d, err := disk.New(1 + sectors + 16)
	if err != api.OK {
		t.Fatal(err)
	}
	p, _ := pool.New(4)
	return api.Store{Size: api.Size{Log: sectors, Pages: 4, Frames: 4}, Disk: d, Log: log.New(1, sectors), Pool: p, Next: 1}
}

func same(a, b any) bool { return fmt.Sprint(a) == fmt.Sprint(b) }

func TestP48_1(t *testing.T) {
	d, _ := disk.New(3)
	if Master(d) != 0 || Master(api.Disk{}) != 0 {
		t.Error("a new disk")
	}
	for _, n := range []int{0, 1, 77, 1<<40 - 1} {
		got, err := SetMaster(d, n)
		if err != api.OK || Master(got) != n || got.Sectors[0] != octet.Seal(octet.Put(n, 6))+strings.Repeat("\x00", 118) || got.Sectors[1] != d.Sectors[1] {
			t.Error(n, err)
		}
		down := got
		down.Down = true
		if Master(down) != 0 {
			t.Error("a disk that is down")
		}
		bad := got
		bad.Sectors = append([]string{"\x01" + got.Sectors[0][1:]}, got.Sectors[1:]...)
		if Master(bad) != 0 {
			t.Error("a wrong checksum")
		}
		short := api.Disk{Sectors: []string{got.Sectors[0][:9]}}
		if Master(short) != 0 {
			t.Error("a short sector")
		}
	}
	great := api.Disk{Sectors: []string{octet.Seal(octet.Put(1<<48-1, 6))}}
	if Master(great) != 1<<48-1 {
		t.Error("Master returns the number that is there")
	}
	for _, n := range []int{-1, 1 << 40, math.MaxInt, math.MinInt} {
		if got, err := SetMaster(d, n); err != api.ErrArg || !same(got, d) {
			t.Error(n, err)
		}
	}
	if got, err := SetMaster(disk.Arm(d, 0), 5); err != api.ErrDown || !got.Down || Master(disk.Start(got)) != 0 {
		t.Error(err)
	}
}

func TestP48_2(t *testing.T) {
	s := store(t)
	got, err := Take(s)
	if r, _ := log.Read(got.Disk, got.Log, 1); err != api.OK || Master(got.Disk) != 1 || !reflect.DeepEqual(r, api.Rec{Kind: api.KCheck, Lsn: 1, Num: 1}) || got.Log.Safe != got.Log.End {
		t.Error(r, err)
	}
	s, _, _ = txn.Begin(s)
	s, _ = pool.Change(s, api.Rec{Kind: api.KChange, Txn: 1, Page: 3, Op: api.Op{Kind: api.OPut, New: "x"}, How: api.UPage})
	s, _ = pool.Change(s, api.Rec{Kind: api.KChange, Txn: 1, Page: 1, Op: api.Op{Kind: api.OPut, New: "x"}, How: api.UPage})
	lsn := s.Log.End + 1
	got, err = Take(s)
	want := api.Rec{Kind: api.KCheck, Lsn: lsn, Num: 2, Txns: s.Txns, Dirty: pool.Dirty(s)}
	if r, _ := log.Read(got.Disk, got.Log, lsn); err != api.OK || Master(got.Disk) != lsn || !reflect.DeepEqual(r, want) || !same(got.Pool, s.Pool) || !same(got.Txns, s.Txns) || len(want.Dirty) != 2 {
		t.Error(r, err)
	}
	full := s
	full.Log.Sectors = 0
	if again, err := Take(full); err != api.ErrFull || !same(again, full) {
		t.Error(err)
	}
	wrong := s
	wrong.Next = -1
	if again, err := Take(wrong); err != api.ErrArg || !same(again, wrong) {
		t.Error(err)
	}
	// The zero sector behind the end, and those of the log, are written before the master.
	need := (got.Log.End+127)/128 + 1
	for n := range need + 1 {
		armed := s
		armed.Disk = disk.Arm(s.Disk, n)
		again, err := Take(armed)
		if err != api.ErrDown || !again.Disk.Down || again.Log.End != got.Log.End || (again.Log.Safe == again.Log.End) != (n == need) || Master(disk.Start(again.Disk)) != 0 {
			t.Error(n, err)
		}
	}
}

func TestP48_3(t *testing.T) {
	r := rand.New(rand.NewSource(48))
	for range 300 {
		s := store(t)
		set := 0
		for range 1 + r.Intn(6) {
			s, _, _ = txn.Begin(s)
			s.Disk = disk.Arm(s.Disk, r.Intn(9))
			lsn := s.Log.End + 1
			next, err := Take(s)
			on := disk.Start(next.Disk)
			if err == api.OK {
				set = lsn
			}
			if m := Master(on); m != set {
				t.Fatal(m, set)
			}
			_, recs, _ := log.Open(on, 1, 60)
			found := set == 0
			for _, x := range recs {
				found = found || x.Lsn == set && x.Kind == api.KCheck
			}
			if !found {
				t.Fatal("the checkpoint is not in the log")
			}
			if err != api.OK {
				break
			}
			s = next
			s.Disk = on
		}
	}
}
