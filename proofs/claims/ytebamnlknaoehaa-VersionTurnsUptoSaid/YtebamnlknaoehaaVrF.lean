/- The contract of version.Pick. -/
import Derived.Test.YtebamnlknaoehaaVrE
namespace Go.Proofs.Ytebamnlknaoehaa
set_option linter.unusedVariables false
open Go.ChangeShapes Go.WideShapes Go.ChangeAt Go.RowKit

abbrev HeldP := HeldV × List ValV
def hpCells (p : HeldP) : List Value := heldCells p.1
theorem hpCells_len (p : HeldP) : (hpCells p).length = 6 := rfl
structure HeldsAt (w : World) (B : Nat) (A : Option Addr) (n c : Nat) (ps : List HeldP) : Prop where
  sl : SlAt hpCells 6 w B A n c ps
  rows : ∀ p ∈ ps, RowAt w B p.1.A p.1.n p.1.k p.2
theorem HeldsAt.below {w w' : World} {B : Nat} {A : Option Addr} {n c : Nat} {ps : List HeldP} (h : HeldsAt w B A n c ps) (hb : Below B w w') : HeldsAt w' B A n c ps := ⟨h.sl.below hb, fun p hp => (h.rows p hp).below hb⟩
theorem HeldsAt.kept {w w' : World} {A : Option Addr} {n c : Nat} {ps : List HeldP} (h : HeldsAt w w.heap.size A n c ps) (hb : Below w.heap.size w w') : HeldsAt w' w'.heap.size A n c ps := ⟨h.sl.kept hb, fun p hp => (h.rows p hp).kept hb⟩
/-- What tells a held version. -/
def keyH (p : HeldP) : Int × Int × Int × Int × Int × List ValV := (p.1.a, p.1.b, p.1.c, p.1.pg, p.1.sl, p.2)
def seenP (s : Int) (p : HeldP) : Bool := seenG p.1.b p.1.c s
theorem row_lt {w : World} {B n k : Nat} {A : Option Addr} {r : List ValV} (h : RowAt w B A n k r) {ad : Addr} (hA : A = some ad) (hr : 0 < r.length) : ad.block < B := by
  obtain ⟨b, off, e, hlt, _⟩ := h.recs.2 (by rw [flat_len _ _ h.recs.1, List.length_map]; omega)
  rw [hA] at e
  injection e with e
  rw [e]
  exact hlt
theorem sl_grown {α : Type} {f : α → List Value} {z : Nat} {w w' : World} {n c : Nat} {A : Option Addr} {l : List α} {row : Option Nat} (h : SlAt f z w w.heap.size A n c l) (hg : w.grownBy w' row) (hne : ∀ ad, A = some ad → 0 < (l.map f).flatten.length → some ad.block ≠ row) : SlAt f z w' w'.heap.size A n c l := by
  refine ⟨h.len, h.cap, h.max, h.nil, ⟨h.recs.1, fun hn => ?_⟩⟩
  obtain ⟨b, off, e, hlt, hc⟩ := h.recs.2 hn
  refine ⟨b, off, e, Nat.lt_of_lt_of_le hlt hg.size, fun j u hj => ?_⟩
  exact (World.cell?_of_block (a := ⟨b, off + j, none⟩) (hg.block b hlt (hne ⟨b, off, none⟩ e hn))).trans (hc j u hj)
theorem row_grown {w w' : World} {n k : Nat} {A : Option Addr} {r : List ValV} {row : Option Nat} (h : RowAt w w.heap.size A n k r) (hg : w.grownBy w' row) (hne : ∀ ad, A = some ad → 0 < r.length → some ad.block ≠ row) : RowAt w' w'.heap.size A n k r :=
  sl_grown h hg fun ad hA hn => hne ad hA (by rw [flat_len _ _ h.recs.1, List.length_map] at hn; omega)
/-- What Pick holds: a row of the call's own, of versions whose rows lie elsewhere. -/
structure PickR (w wr : World) (u : Value) (qs : List HeldP) : Prop where
  below : Below w.heap.size w wr
  own : wr.ownsRow w.heap.size 40 6 u qs.length (qs.map hpCells).flatten
  rows : ∀ p ∈ qs, RowAt wr wr.heap.size p.1.A p.1.n p.1.k p.2
  apart : ∀ p ∈ qs, ∀ ad, p.1.A = some ad → 0 < p.2.length → some ad.block ≠ u.ownBlock
theorem PickR.kept {w wr w' : World} {u : Value} {qs : List HeldP} (h : PickR w wr u qs) (hb : Below wr.heap.size wr w') : PickR w w' u qs :=
  ⟨h.below.trans (hb.mono h.below.size), own_below h.own hb, fun p hp => (h.rows p hp).kept hb, h.apart⟩
theorem PickR.more {w wr w' : World} {u u' : Value} {qs : List HeldP} {q : HeldP} (h : PickR w wr u qs) (hq : RowAt wr wr.heap.size q.1.A q.1.n q.1.k q.2) (hqa : ∀ ad, q.1.A = some ad → 0 < q.2.length → some ad.block ≠ u.ownBlock)
    (hg : wr.grownBy w' u.ownBlock) (hat : u'.ownBlock = u.ownBlock ∨ u'.ownBlock = some wr.heap.size) (hown : w'.ownsRow w.heap.size 40 6 u' (qs.length + 1) ((qs.map hpCells).flatten ++ hpCells q)) : PickR w w' u' (qs ++ [q]) := by
  have hall : ∀ p ∈ qs ++ [q], RowAt wr wr.heap.size p.1.A p.1.n p.1.k p.2 ∧ ∀ ad, p.1.A = some ad → 0 < p.2.length → some ad.block ≠ u.ownBlock := by
    intro p hp
    rcases List.mem_append.1 hp with hp | hp
    · exact ⟨h.rows p hp, h.apart p hp⟩
    · obtain rfl := List.mem_singleton.1 hp
      exact ⟨hq, hqa⟩
  refine ⟨h.below.grown hg h.below.size (fun k hk => (h.own.lt k hk).1), by simpa using hown, fun p hp => row_grown (hall p hp).1 hg (hall p hp).2, fun p hp ad hA hr => ?_⟩
  rcases hat with e | e
  · rw [e]; exact (hall p hp).2 ad hA hr
  · have := row_lt (hall p hp).1 hA hr
    rw [e]
    intro e2
    injection e2
    omega
theorem PickR.done {w wr : World} {u : Value} {qs : List HeldP} (h : PickR w wr u qs) : ∃ A c, u = .slice A qs.length c ∧ HeldsAt wr wr.heap.size A qs.length c qs := by
  obtain ⟨A, c, rfl, hS⟩ := sl_of_own h.own hpCells_len
  exact ⟨A, c, rfl, ⟨hS, h.rows⟩⟩
def GivesPick (w : World) (s : Int) (ps : List HeldP) (e : Ending) (w' : World) : Prop := ∃ A c qs, e = .returned (.slice A qs.length c) ∧ HeldsAt w' w'.heap.size A qs.length c qs ∧ Below w.heap.size w w' ∧ qs.map keyH = (ps.filter (seenP s)).map keyH
theorem HeldsAt.at {w : World} {B n c : Nat} {A : Option Addr} {ps : List HeldP} (h : HeldsAt w B A n c ps) {i : Nat} (hi : i < n) : ∃ b off p, A = some ⟨b, off, none⟩ ∧ b < B ∧ ps[i]? = some p ∧ (w.cell? ⟨b, off + i * 6, none⟩ = some (.int .i64 p.1.a) ∧ w.cell? ⟨b, off + i * 6 + 1, none⟩ = some (.int .i64 p.1.b) ∧ w.cell? ⟨b, off + i * 6 + 2, none⟩ = some (.int .i64 p.1.c) ∧ w.cell? ⟨b, off + i * 6 + 3, none⟩ = some (.slice p.1.A p.1.n p.1.k) ∧ w.cell? ⟨b, off + i * 6 + 4, none⟩ = some (.int .i64 p.1.pg) ∧ w.cell? ⟨b, off + i * 6 + 5, none⟩ = some (.int .i64 p.1.sl)) := by
  obtain ⟨b, off, p, e, hb, hp, hc⟩ := h.sl.at (by omega) hi
  exact ⟨b, off, p, e, hb, hp, hc 0 _ rfl, hc 1 _ rfl, hc 2 _ rfl, hc 3 _ rfl, hc 4 _ rfl, hc 5 _ rfl⟩
set_option maxRecDepth 100000 in
set_option maxHeartbeats 2000000 in
theorem pick_c (A : Option Addr) (n c : Nat) (s : Int) (ps : List HeldP) (w : World) (h : HeldsAt w w.heap.size A n c ps) (hn : n ≤ 1048576) (hp : ∀ p ∈ ps, p.1.n ≤ 1048576) :
    Calls Try.prog 19 #[.slice A n c, .int .i64 s] w (GivesPick w s ps) := by
  have H := hide h
  have HL := hide h.sl.len
  have HP := hide hp
  obtain ⟨i0, hi0, hz0, hz1, hz2⟩ := info_parts held_info
  clear h hp
  go_enter Try.func19, Try.ntmps19
  go_wp2_with fail
  go_loopw [5, 10] (fun u i wr => ∃ (k : Nat) (qs : List HeldP), k ≤ n ∧ i = .int .i64 k ∧ qs.length ≤ k ∧ Hid (PickR w wr u qs ∧ qs.map keyH = ((ps.take k).filter (seenP s)).map keyH)) (fun _ i _ => n - (intOf i).toNat)
  case atStart => exact ⟨0, [], Nat.zero_le _, rfl, Nat.le_refl _, ⟨⟨Below.refl _ _, World.ownsRow_nil _ _ _ _, by simp, by simp⟩, rfl⟩⟩
  case round =>
    obtain ⟨k, qs, hk, rfl, hqk, HI⟩ := hrel
    by_cases hlt : k < n
    · obtain ⟨hPR, hkey⟩ := HI.out
      have hps := H.out.below hPR.below
      obtain ⟨b, off, p, rfl, hb, hpk, hc0, hc1, hc2, hc3, hc4, hc5⟩ := hps.at hlt
      have hpn := HP.out p (List.mem_of_getElem? hpk)
      have hrow := (hps.rows p (List.mem_of_getElem? hpk)).more hPR.below.size
      have ht := take_at hpk
      have hkey2 : ((ps.take (k + 1)).filter (seenP s)).map keyH = qs.map keyH ++ (if seenP s p then [keyH p] else []) := by
        rw [ht, List.filter_append, List.map_append, ← hkey]
        by_cases hs : seenP s p = true <;> simp [List.filter, hs]
      have HR := hide hPR
      have HRow := hide hrow
      have HKey := hide hkey2
      have hsx : Hid (seenP s p = seenG p.1.b p.1.c s) := rfl
      clear hPR hkey hps hpk hrow ht hkey2 HI
      obtain ⟨⟨pa, pb, pc, pA, pn, pk, pg, sl⟩, r⟩ := p
      simp only at hc0 hc1 hc2 hc3 hc4 hc5 HRow hsx hpn
      have QS := hide (fun W => seen_c pa pb pc s pA pn pk W)
      unfold verAgg at QS
      generalize seenG pb pc s = x at *
      go_wp2_with fail
      refine (QS.out _).mono ?_
      rintro e w2 ⟨rfl, hb2⟩
      have HBx := hide ((hb_new wr ⟨pa, pb, pc, pA, pn, pk, pg, sl⟩).kept hb2)
      have hbb := Bel.then (Bel.one wr _) hb2
      have HR2 := hide (HR.out.kept hbb)
      have HRow2 := hide (HRow.out.kept hbb)
      obtain ⟨⟨k0, k1, k2, k3, k4, k5⟩, _⟩ := HBx.out.all
      simp only at k0 k1 k2 k3 k4 k5
      clear hb2 hbb QS HR HRow hc0 hc1 hc2 hc3 hc4 hc5
      cases x
      · go_wp2_with fail
        go_roundw
        case rel => exact ⟨k + 1, qs, by omega, by go_num, by omega, ⟨HR2.out, by rw [HKey.out, hsx.out]; simp⟩⟩
        case measure => simp [intOf]; omega
      · have QH := hide (held_c ⟨pa, pb, pc, pA, pn, pk, pg, sl⟩ r w2 HRow2.out hpn)
        unfold heldAgg at QH
        simp only at QH
        go_wp2_with fail
        refine QH.out.mono ?_
        rintro e w3 ⟨A3, k3', rfl, hr3, hb3, hf3⟩
        have HR3 := hide (HR2.out.kept hb3)
        have HRow3 := hide hr3
        have hfne : ∀ ad, A3 = some ad → some ad.block ≠ u5.ownBlock := fun ad hA e => by
          have h1 := hf3 ad hA
          have h2 := (HR2.out.own.lt ad.block e.symm).2
          omega
        have HF3 := hide hfne
        clear hr3 hb3 hf3 hfne QH HR2 HRow2 k0 k1 k2 k3 k4 k5 HBx
        go_wp2_with (at_builtin; refine wpList_app rfl (.tmp 18) (.tmp 21) 35 rfl w.heap.size 40 i0 _ 6 64 Try.underlying35 hi0 hz0 hz1 hz2 rfl (by omega) u5 qs.length _ rfl (HR3.out.own.alloc _) _ _ 1 1 (heldCells ⟨pa, pb, pc, A3, r.length, k3', pg, sl⟩) rfl rfl (cells_lit w3 #[.int .i64 pa, .int .i64 pb, .int .i64 pc, .slice A3 r.length k3', .int .i64 pg, .int .i64 sl] 40) (by simp [heldCells, Value.oneCell']) (by simp only [maxLen]; omega) (by omega) (by have := HR3.out.below.size; simp; omega) (by simp) ?_; intro v4 w4 hown4 hg4 hat4)
        have HR4 := hide ((HR3.out.kept (Bel.one w3 _)).more (q := (⟨pa, pb, pc, A3, r.length, k3', pg, sl⟩, r)) (HRow3.out.kept (Bel.one w3 _)) (fun ad hA _ => HF3.out ad hA) hg4 hat4 hown4)
        clear hown4 hg4 hat4 HR3 HRow3 HF3
        go_wp2_with fail
        go_roundw
        case rel => exact ⟨k + 1, qs ++ [(⟨pa, pb, pc, A3, r.length, k3', pg, sl⟩, r)], by omega, by go_num, by simp; omega, ⟨HR4.out, by rw [HKey.out, hsx.out, if_pos rfl, List.map_append]; rfl⟩⟩
        case measure => simp [intOf]; omega
    · obtain rfl : k = n := by omega
      obtain ⟨hPR, hkey⟩ := HI.out
      rw [← HL.out, List.take_length] at hkey
      obtain ⟨A', c', rfl, hS⟩ := hPR.done
      have HS := hide hS
      have HB := hide hPR.below
      have HK := hide hkey
      clear hPR hkey hS HI
      go_wp2_with fail
      go_ret
      exact ⟨A', c', qs, rfl, HS.out, HB.out, HK.out⟩
end Go.Proofs.Ytebamnlknaoehaa
