/- The contract of the reference's Order. -/
import Derived.Test.YtjbnhaiiedajjaaDoorOrder
namespace Go.Proofs.YtjbnhaiiedajjaaDoor
set_option linter.unusedVariables false
open Go.ChangeShapes Go.WideShapes Go.ChangeAt Go.RowKit

set_option maxHeartbeats 2000000 in
theorem rorder_c (A A2 : Option Addr) (N C N2 C2 : Nat) (cs : List ColV) (l : List OrdV) (w : World) (h : ColsAt w w.heap.size A N C cs) (h2 : OrdsAt w w.heap.size A2 N2 C2 l) (hN2 : N2 ≤ 1048576) (hN : N ≤ 1048576) :
    Calls Tryd.prog 13 #[.slice A N C, .slice A2 N2 C2] w fun e w' => GivesBys w (ordL cs l) (ordE cs l) e w' := by
  obtain ⟨i0, hi0, hz0, hz1, hz2⟩ := info_parts by_info
  have hm1 := h.cap
  have hm2 := h2.cap
  have HC := hide h
  have HL := hide h2
  clear h h2
  go_enter Tryd.func13, Tryd.ntmps13
  go_wp2
  go_loopw [6, 7] (fun o i wr => ∃ j : Nat, j ≤ N2 ∧ i = .int .i64 j ∧ Hid (wr.ownsRow w.heap.size 56 2 o j ((l.take j).map (byCells cs)).flatten) ∧ Hid (Below w.heap.size w wr) ∧ Hid (ordE cs (l.drop j) = ordE cs l)) (fun _ i _ => N2 - (intOf i).toNat)
  case atStart => exact ⟨0, Nat.zero_le _, rfl, World.ownsRow_lit w #[] 0 (Nat.le_refl _) (by simp [maxLen]) (by simp), (Below.refl _ _).alloc (Nat.le_refl _) _, rfl⟩
  case round =>
    obtain ⟨j, hj, rfl, HO, HB, HE⟩ := hrel
    by_cases hjt : j < N2
    · obtain ⟨b2, off2, o, rfl, hb2, hc, hc0, hc1, hc2⟩ := (HL.out.below HB.out).ord hjt
      have hpos := HL.out.pos o (List.mem_of_getElem? hc)
      have hst := HE.out.symm.trans (ordE_at cs hc)
      have htk := take_at hc
      have q := by_c A N C cs o wr ((HC.out.below HB.out).more HB.out.size) hpos hN
      have hbc : byCells cs o = [.int .i64 (keyF cs o).1, .bool o.dwn] := rfl
      generalize hk : keyF cs o = k at *
      obtain ⟨k1, k2⟩ := k
      simp only at q hst hbc
      have HT := hide htk
      have HBC := hide hbc
      clear htk hbc hk hc hpos
      by_cases hk2 : k2 = 0
      · subst hk2
        rw [if_pos rfl] at hst
        rw [show byV (k1, (0 : Int)) o.dwn = .tuple #[.agg #[.int .i64 k1, .bool o.dwn], .int .i64 0] from rfl] at q
        have HQ := hide q
        clear q
        have HS := hide hst
        clear hst
        go_wp2_with fail
        refine HQ.out.mono ?_
        rintro e w1 ⟨rfl, hb⟩
        have HB1 := hide (HB.out.trans (hb.mono HB.out.size))
        obtain ⟨hcc, hff⟩ := bcell hb
        have hz : wr.heap.size ≤ w1.heap.size := hb.size
        have HO1 := hide (own_below HO.out hb)
        clear hb
        go_wp2_with (
          at_builtin
          refine wpList_app rfl (.tmp 29) (.tmp 31) 33 rfl w.heap.size 56 i0 _ 2 16 Tryd.underlying33 hi0 hz0 hz1 hz2 rfl (by omega) u6 j _ rfl ((HO1.out.alloc _).alloc _) _ _ 1 1 [.int .i64 k1, .bool o.dwn] rfl rfl (cells_lit2 w1 _ #[.int .i64 k1, .bool o.dwn] 56) (by simp [Value.oneCell']) (by simp only [maxLen]; omega) (by omega) (by have := HB1.out.size; simp; omega) (by simp) ?_
          intro v1 w2 hown1 hg1 hat1
          have HB2 := hide ((((Below.refl w.heap.size w1).alloc HB1.out.size _).alloc (by have := HB1.out.size; simp; omega) (.cells #[.int .i64 k1, .bool o.dwn] 56)).grown hg1 (by have := HB1.out.size; simp; omega) (fun k hk => (HO1.out.lt k hk).1))
          have HO2 := hide hown1
          clear hown1 hg1 hat1)
        go_roundw
        case rel =>
          refine ⟨j + 1, by omega, by go_num, ?_, ?_, HS.out.symm⟩
          · show World.ownsRow _ _ _ _ _ _ _
            have := HO2.out
            rw [HT.out, List.map_append, List.flatten_append]
            simpa [HBC.out] using this
          · exact HB1.out.trans HB2.out
        case measure => simp [intOf]; omega
      · rw [if_neg hk2] at hst
        have HS := hide hst
        have hne : (k2 != 0) = true := by simp [hk2]
        rw [show byV (k1, k2) o.dwn = .tuple #[.agg #[.int .i64 0, .bool false], .int .i64 k2] by simp [byV, hk2]] at q
        have HQ := hide q
        clear q
        have hl0 : ordL cs l = [] := by unfold ordL; rw [hst, if_neg hk2]
        have HL0 := hide hl0
        clear hst hl0
        go_wp2_with fail
        refine HQ.out.mono ?_
        rintro e w1 ⟨rfl, hb⟩
        have HB1 := hide (HB.out.trans (hb.mono HB.out.size))
        obtain ⟨hcc, hff⟩ := bcell hb
        have hz : wr.heap.size ≤ w1.heap.size := hb.size
        have HO1 := hide (own_below HO.out hb)
        clear hb
        go_wp2
        go_ret2
        refine ⟨none, 0, ?_, ?_, HB1.out.alloc HB1.out.size _, fun ad e => by cases e⟩
        · rw [HL0.out, HS.out]; rfl
        · rw [HL0.out]; exact ⟨by simp, Cells.none _ _ _⟩
    · have hjn : l.take j = l := List.take_of_length_le (by have := HL.out.len; omega)
      have hj2 : j = N2 := by omega
      have hE := HE.out
      rw [List.drop_of_length_le (by have := HL.out.len; omega)] at hE
      rw [hjn] at HO
      have hE0 : ordE cs l = 0 := hE.symm
      have hlen := HL.out.len
      have HE0 := hide hE0
      have HLE := hide hlen
      clear hjn hE hE0 hlen
      obtain ⟨A', c', rfl, hnc, hA', hC'⟩ := own_form HO.out
      have HC' := hide hC'
      clear hC' hA'
      go_wp2
      go_ret2
      have hl1 : ordL cs l = l.map (byCells cs) := by unfold ordL; rw [HE0.out, if_pos rfl]
      refine ⟨A', c', ?_, ?_, HB.out, ?_⟩
      · rw [hl1, HE0.out, List.length_map, HLE.out, hj2]
        rfl
      · rw [hl1]
        refine ⟨fun xs hx => ?_, HC'.out⟩
        obtain ⟨o, _, rfl⟩ := List.mem_map.1 hx
        rfl
      · intro ad e
        subst e
        exact (HO.out.lt ad.block rfl).1
/-- The two lists read as the same columns. -/
theorem bys_c (A A2 : Option Addr) (C C2 : Nat) (bys : List (List Value)) (w : World) (hb : ∀ xs ∈ bys, ∃ (p : Int) (d : Bool), xs = [.int .i64 p, .bool d]) (h : Recs w w.heap.size A 2 bys) (h2 : Recs w w.heap.size A2 2 bys) (hN : bys.length ≤ 1048576) :
    Calls Tryd.prog 15 #[.slice A bys.length C, .slice A2 bys.length C2] w fun e w' => e = .returned (.bool true) ∧ Below w.heap.size w w' := by
  have HI := hide h
  have HI2 := hide h2
  have HB := hide hb
  generalize hn : bys.length = n at *
  have HN := hide hn
  clear h h2 hb hn
  go_enter Tryd.func15, Tryd.ntmps15
  go_wp2
  go_loopw [5] (fun i wr => ∃ k m : Nat, k ≤ n ∧ i = .int .i64 k ∧ wr = w.drewN m) (fun i _ => n - (intOf i).toNat)
  case atStart => exact ⟨0, 0, Nat.zero_le _, rfl, rfl⟩
  case round =>
    obtain ⟨k, m, hk, rfl, rfl⟩ := hrel
    by_cases hlt : k < n
    · have hn0 := HN.out
      have hkk : bys[k]? = some (bys[k]'(by omega)) := List.getElem?_eq_getElem (by omega)
      obtain ⟨p, d, hx⟩ := HB.out _ (List.mem_of_getElem? hkk)
      obtain ⟨b1, o1, rfl, _, hc1⟩ := HI.out.at (by omega) (by omega)
      obtain ⟨b2, o2, rfl, _, hc2⟩ := HI2.out.at (by omega) (by omega)
      have x0 : w.cell? ⟨b1, o1 + k * 2, none⟩ = some (.int .i64 p) := hc1 k _ 0 (.int .i64 p) hkk (by rw [hx]; rfl)
      have x1 : w.cell? ⟨b1, o1 + k * 2 + 1, none⟩ = some (.bool d) := hc1 k _ 1 (.bool d) hkk (by rw [hx]; rfl)
      have y0 : w.cell? ⟨b2, o2 + k * 2, none⟩ = some (.int .i64 p) := hc2 k _ 0 (.int .i64 p) hkk (by rw [hx]; rfl)
      have y1 : w.cell? ⟨b2, o2 + k * 2 + 1, none⟩ = some (.bool d) := hc2 k _ 1 (.bool d) hkk (by rw [hx]; rfl)
      clear hc1 hc2 hkk hx hn0
      have f1 : (p == p) = true := by simp
      have f2 : (d == d) = true := by cases d <;> rfl
      go_wp2_with fail
      go_quiet (fail)
      go_wp2_with fail
      go_roundw
      case rel => exact ⟨k + 1, _, by omega, by go_num, rfl⟩
      case measure => simp [intOf]; omega
    · have hkn : k = n := by omega
      subst hkn
      go_wp2
      go_ret
      exact ⟨rfl, Bel.drewN (Below.refl _ _) _⟩
end Go.Proofs.YtjbnhaiiedajjaaDoor
