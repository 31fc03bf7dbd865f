/- The contracts of scalar's shifted, of callOne for upper, of call for coalesce and upper. -/
import Derived.Test.YtlkeghfdpbfhbaaScD
import Derived.Laws.IdiomStrings
import Derived.Laws.BytesArg
namespace Go.Proofs.Ytlkeghfdpbfhbaa
set_option linter.unusedVariables false
open Go.ChangeShapes Go.WideShapes Go.ChangeAt Go.RowKit

def strL (l : List UInt8) : ByteArray := ⟨l.toArray⟩
/-- Block g holds the bytes l, not frozen. -/
def Holds (w : World) (g : Nat) (l : List UInt8) : Prop := ∀ j, j < l.length → w.cell? ⟨g, j, none⟩ = some (.int .u8 ((l.getD j 0).toNat : Int)) ∧ w.frozen? ⟨g, j, none⟩ = false
theorem made_bytes (w : World) (s : ByteArray) : ∃ cap W1, (convert 9 74 (.string s)).run Try.prog w = .ok (.slice (some ⟨w.heap.size, 0, none⟩) s.size cap) W1 ∧ s.size ≤ cap ∧ Below w.heap.size w W1 ∧ Holds W1 w.heap.size s.data.toList ∧ w.heap.size < W1.heap.size := by
  have hr := run_bytes_of_string (P := Try.prog) w 9 74 5 s Try.underlying9 Try.underlying74 Try.underlying5
  have hcap : s.size ≤ grownCap w s.size 0 5 := grownCap_ge _ _ _ _
  generalize grownCap w s.size 0 5 = c at *
  refine ⟨_, _, hr, hcap, ?_, ?_, ?_⟩
  · exact (Below.refl _ _).drew.alloc (Nat.le_refl _) _
  · intro j hj
    have hl := str_len s
    refine ⟨?_, ?_⟩
    · refine (cell_of_row (w.drew.alloc _) w.heap.size j _ _ _ (heap_alloc_new w.drew _)).trans ?_
      rw [bytesRow, Array.getElem?_append_left (by rw [Array.size_map]; show j < s.size; omega), Array.getElem?_map]
      have hj2 : j < s.data.size := by show j < s.size; omega
      rw [Array.getElem?_eq_getElem hj2, List.getD_eq_getElem?_getD, List.getElem?_eq_getElem hj]
      simp
    · have := World.frozen?_alloc_mark w.drew (bytesRow s c) 5 (bytesRow s c).size ((bytesRow s c).size + 1) j
      refine this.trans ?_
      have hz : s.size ≤ (bytesRow s c).size := by
        unfold bytesRow
        rw [Array.size_append, Array.size_map]
        exact Nat.le_add_right _ _
      simp
      omega
  · rw [World.size_alloc]
    exact Nat.lt_succ_self _
theorem Holds.set {w : World} {g : Nat} {l : List UInt8} (h : Holds w g l) {k : Nat} (hk : k < l.length) (x : UInt8) {v : Int} (hv : v = (x.toNat : Int)) : Holds (w.setCell ⟨g, k, none⟩ (.int .u8 v)) g (l.set k x) := by
  intro j hj
  rw [List.length_set] at hj
  obtain ⟨h1, h2⟩ := h j hj
  refine ⟨?_, by simpa using h2⟩
  by_cases e : k = j
  · subst e
    rw [World.cell?_setCell_same w _ _ (h k hk).1, List.getD_eq_getElem?_getD, List.getElem?_set_self hk, hv]
    rfl
  · rw [World.cell?_setCell_other w _ _ _ (fun q => e (by injection q)), h1, List.getD_eq_getElem?_getD, List.getD_eq_getElem?_getD, List.getElem?_set_ne e]
theorem back_c (w : World) (g cap : Nat) (l : List UInt8) (n : Nat) (hn : l.length = n) (h : ∀ j, j < l.length → w.cell? ⟨g, j, none⟩ = some (.int .u8 ((l.getD j 0).toNat : Int))) : (convert 74 9 (.slice (some ⟨g, 0, none⟩) n cap)).run Try.prog w = .ok (.string (strL l)) w := by
  subst hn
  refine run_convert_bytes_back (P := Try.prog) w 74 9 5 ⟨g, 0, none⟩ cap l Try.underlying74 Try.underlying5 Try.underlying9 ?_
  intro j hj
  have := h j hj
  rw [List.getD_eq_getElem?_getD, List.getElem?_eq_getElem hj] at this
  rw [add_off, Nat.zero_add]
  exact this
def shB (lo hi to : UInt8) (c : UInt8) : UInt8 := if decide (lo.toNat ≤ c.toNat) && decide (c.toNat ≤ hi.toNat) then c - lo + to else c
/-- Shifted up to a place. -/
def shTo (f : UInt8 → UInt8) (l : List UInt8) (k : Nat) : List UInt8 := (l.take k).map f ++ l.drop k
theorem shTo_len (f : UInt8 → UInt8) (l : List UInt8) (k : Nat) : (shTo f l k).length = l.length := by unfold shTo; rw [List.length_append, List.length_map, List.length_take, List.length_drop]; omega
theorem shTo_all (f : UInt8 → UInt8) (l : List UInt8) : shTo f l l.length = l.map f := by unfold shTo; rw [List.take_length, List.drop_length, List.append_nil]
theorem shTo_at {f : UInt8 → UInt8} {l : List UInt8} {k : Nat} {c : UInt8} (h : l[k]? = some c) : (shTo f l k).getD k 0 = c ∧ shTo f l (k + 1) = (shTo f l k).set k (f c) ∧ (f c = c → shTo f l (k + 1) = shTo f l k) := by
  have hk := (List.getElem?_eq_some_iff.1 h).1
  have hlen : ((l.take k).map f).length = k := by rw [List.length_map, List.length_take]; omega
  have h1 : (shTo f l k)[k]? = some c := by
    unfold shTo
    rw [List.getElem?_append_right (by omega), hlen, Nat.sub_self, List.getElem?_drop, Nat.add_zero, h]
  have h2 : shTo f l (k + 1) = (shTo f l k).set k (f c) := by
    unfold shTo
    rw [take_at h, drop_at h, List.map_append, List.set_append_right _ _ (by omega), hlen, Nat.sub_self]
    simp
  refine ⟨by rw [List.getD_eq_getElem?_getD, h1]; rfl, h2, fun e => ?_⟩
  rw [h2, e]
  apply List.ext_getElem?
  intro j
  rw [List.getElem?_set]
  split
  · rename_i e2
    subst e2
    rw [shTo_len, if_pos hk, h1]
  · rfl
theorem str_at2 {s : ByteArray} {k : Nat} (h : k < s.size) : ∃ c, s.data.toList[k]? = some c := ⟨_, List.getElem?_eq_getElem (by rw [str_len]; exact h)⟩
set_option maxRecDepth 100000 in
set_option maxHeartbeats 4000000 in
theorem shifted_c (s : ByteArray) (lo hi to : UInt8) (w : World) (hm : s.size ≤ 1048576) (hlt : hi.toNat - lo.toNat + to.toNat < 256) : Calls Try.prog 78 #[.string s, .int .u8 lo.toNat, .int .u8 hi.toNat, .int .u8 to.toNat] w fun e w' => e = .returned (.string (strL (s.data.toList.map (shB lo hi to)))) ∧ Below w.heap.size w w' := by
  have hl := str_len s
  obtain ⟨cap, W1, hr, hcap, hb, hh, hz⟩ := made_bytes w s
  have HH := hide hh
  have HB := hide hb
  have HZ := hide hz
  obtain ⟨f, hf⟩ : ∃ f, shB lo hi to = f := ⟨_, rfl⟩
  rw [hf]
  have HF := hide hf
  clear hh hb hz hf
  go_enter Try.func78, Try.ntmps78
  go_wp2_with fail
  go_loopw [10, 11, 16] (fun _ _ v wr => ∃ k : Nat, v = .int .i64 k ∧ k ≤ s.size ∧ Hid (Below w.heap.size w wr) ∧ Hid (w.heap.size < wr.heap.size) ∧ Hid (Holds wr w.heap.size (shTo f s.data.toList k))) (fun _ _ v _ => s.size - (intOf v).toNat)
  case atStart => exact ⟨0, rfl, Nat.zero_le _, HB, HZ, HH⟩
  case round =>
    clear HB HZ HH hr
    obtain ⟨k, rfl, hk, HB, HZ, HH⟩ := hrel
    by_cases hlt2 : k < s.size
    · have hlti : (k : Int) < s.size := by omega
      have hwk : IntKind.i64.wrap ((k : Int) + 1) = (k : Int) + 1 := IntWalk.i64_in _ (by omega)
      obtain ⟨c, hg⟩ := str_at2 hlt2
      obtain ⟨u1, u2, u3⟩ := shTo_at (f := f) hg
      have hkl : k < (shTo f s.data.toList k).length := by rw [shTo_len]; omega
      obtain ⟨hcell, hfr⟩ := HH.out k hkl
      rw [u1] at hcell
      have hcl := c.toNat_lt
      by_cases h1 : lo.toNat ≤ c.toNat
      · have p1 : (lo.toNat : Int) ≤ (c.toNat : Int) := by omega
        by_cases h2 : c.toNat ≤ hi.toNat
        · have p2 : (c.toNat : Int) ≤ (hi.toNat : Int) := by omega
          obtain ⟨y, hy⟩ : ∃ y, f c = y := ⟨_, rfl⟩
          obtain ⟨d, hd⟩ : ∃ d, c - lo = d := ⟨_, rfl⟩
          have hll := lo.toNat_lt
          have hdc : (d.toNat : Int) = (c.toNat : Int) - lo.toNat := by
            rw [← hd, UInt8.toNat_sub]
            omega
          have hyc : (y.toNat : Int) = (d.toNat : Int) + to.toNat := by
            rw [← hy, ← HF.out]
            unfold shB
            rw [if_pos (by rw [decide_eq_true h1, decide_eq_true h2]; rfl), hd, UInt8.toNat_add]
            omega
          have f1 : IntKind.u8.wrap ((c.toNat : Int) - (lo.toNat : Int)) = (d.toNat : Int) := by rw [← hdc]; exact IntWalk.u8_in _ (by have := d.toNat_lt; omega)
          have f2 : IntKind.u8.wrap ((d.toNat : Int) + (to.toNat : Int)) = (y.toNat : Int) := by rw [← hyc]; exact IntWalk.u8_in _ (by have := y.toNat_lt; omega)
          have HH2 : Hid (Holds (wr.setCell ⟨w.heap.size, k, none⟩ (.int .u8 (y.toNat : Int))) w.heap.size (shTo f s.data.toList (k + 1))) := by
            rw [hy] at u2
            have := HH.out.set hkl y (v := (y.toNat : Int)) rfl
            rw [← u2] at this
            exact this
          have HB2 := hide (HB.out.setCell (p := ⟨w.heap.size, k, none⟩) (Nat.le_refl _) (.int .u8 (y.toNat : Int)))
          have HZ2 : Hid (w.heap.size < (wr.setCell ⟨w.heap.size, k, none⟩ (.int .u8 (y.toNat : Int))).heap.size) := by
            have := HZ.out
            show _ < _
            simpa [World.setCell] using this
          clear u1 u2 u3 hkl hg hy hyc hd hdc HH HB HZ h1 h2
          go_wp2_with fail
          go_roundw
          case rel => exact ⟨k + 1, by go_num, by omega, HB2, HZ2, HH2⟩
          case measure => simp [intOf]; omega
        · have p2 : ¬ (c.toNat : Int) ≤ (hi.toNat : Int) := by omega
          have HH2 : Hid (Holds wr w.heap.size (shTo f s.data.toList (k + 1))) := by
            rw [u3 (by rw [← HF.out]; unfold shB; rw [if_neg (by rw [decide_eq_false h2, Bool.and_false]; decide)])]
            exact HH
          clear u1 u2 u3 hkl hg HH h1 h2
          go_wp2_with fail
          go_roundw
          case rel => exact ⟨k + 1, by go_num, by omega, HB, HZ, HH2⟩
          case measure => simp [intOf]; omega
      · have p1 : ¬ (lo.toNat : Int) ≤ (c.toNat : Int) := by omega
        have HH2 : Hid (Holds wr w.heap.size (shTo f s.data.toList (k + 1))) := by
          rw [u3 (by rw [← HF.out]; unfold shB; rw [if_neg (by rw [decide_eq_false h1, Bool.false_and]; decide)])]
          exact HH
        clear u1 u2 u3 hkl hg HH h1
        go_wp2_with fail
        go_roundw
        case rel => exact ⟨k + 1, by go_num, by omega, HB, HZ, HH2⟩
        case measure => simp [intOf]; omega
    · have hlti : ¬ (k : Int) < s.size := by omega
      have hkk : k = s.size := by omega
      have hall : shTo f s.data.toList k = s.data.toList.map f := by rw [hkk, ← hl]; exact shTo_all _ _
      have hcv : (convert 74 9 (.slice (some ⟨w.heap.size, 0, none⟩) s.size cap)).run Try.prog wr = .ok (.string (strL (s.data.toList.map f))) wr := by
        refine back_c wr w.heap.size cap _ s.size (by rw [List.length_map]; exact hl) fun j hj => ?_
        have h1 := HH.out j (by rw [hall]; exact hj)
        rw [hall] at h1
        exact h1.1
      obtain ⟨u, hu⟩ : ∃ u, strL (s.data.toList.map f) = u := ⟨_, rfl⟩
      have HU := hide hu
      rw [hu] at hcv
      clear HH hall hkk HZ hu
      go_wp2_with fail
      go_ret
      exact ⟨by rw [HU.out]; rfl, HB.out⟩
def upL (l : List UInt8) : List UInt8 := l.map (shB 97 122 65)
abbrev upName : ByteArray := { data := #[117, 112, 112, 101, 114] }
abbrev coName : ByteArray := { data := #[99, 111, 97, 108, 101, 115, 99, 101] }
theorem n1 : (upName.toList == ({ data := #[97, 98, 115] } : ByteArray).toList) = false := by decide +kernel
theorem n2 : (upName.toList == ({ data := #[108, 101, 110, 103, 116, 104] } : ByteArray).toList) = false := by decide +kernel
theorem n3 : (upName.toList == ({ data := #[108, 111, 119, 101, 114] } : ByteArray).toList) = false := by decide +kernel
theorem n4 : (upName.toList == upName.toList) = true := by decide +kernel
theorem n5 : (upName.toList == coName.toList) = false := by decide +kernel
theorem n6 : (upName.toList == ({ data := #[110, 117, 108, 108, 105, 102] } : ByteArray).toList) = false := by decide +kernel
theorem n7 : (coName.toList == coName.toList) = true := by decide +kernel
set_option maxRecDepth 100000 in
set_option maxHeartbeats 2000000 in
theorem upone_c (n : Int) (s : ByteArray) (w : World) (hm : s.size ≤ 1048576) : Calls Try.prog 53 #[.string upName, valAgg ⟨3, n, s⟩] w (GivesV w (strV (strL (upL s.data.toList)))) := by
  obtain ⟨h1, h2, h3⟩ := vb_two w 3 n s
  have H1 := hide h1
  have HX := hide h2
  have HB := hide h3
  have QS := hide (fun W => shifted_c s 97 122 65 W hm (by decide))
  have e1 : ((97 : UInt8).toNat : Int) = 97 := rfl
  have e2 : ((122 : UInt8).toNat : Int) = 122 := rfl
  have e3 : ((65 : UInt8).toNat : Int) = 65 := rfl
  rw [e1, e2, e3] at QS
  have QV := hide (fun u W => strv_c u W)
  have hU : upL s.data.toList = s.data.toList.map (shB 97 122 65) := rfl
  rw [hU]
  generalize strL (s.data.toList.map (shB 97 122 65)) = u at *
  have m1 := n1
  have m2 := n2
  have m3 := n3
  have m4 := n4
  clear h1 h2 h3 hU e1 e2 e3
  unfold valAgg
  simp only
  go_enter Try.func53, Try.ntmps53
  go_upto_region 1 with (fail)
  generalize (w.alloc (.cells #[.int .i64 3, .int .i64 n, .string s] 26)).alloc (.cells #[.int .i64 0, .int .i64 0, .string { data := #[] }] 26) = w1 at *
  obtain ⟨⟨c0, c1, c2⟩, _⟩ := H1.out.all
  go_wp2_with fail
  refine (QS.out _).mono ?_
  rintro e w2 ⟨rfl, hb⟩
  replace HX := hide (HX.out.kept hb)
  replace HB := hide (Bel.then HB.out hb)
  clear c0 c1 c2 hb
  go_wp2_with fail
  refine (QV.out _ _).mono ?_
  rintro e w3 ⟨rfl, hb⟩
  replace HX := hide (HX.out.kept hb)
  replace HB := hide (Bel.then HB.out hb)
  generalize strV u = r at *
  obtain ⟨⟨c0, c1, c2⟩, ⟨y0, y1, y2⟩⟩ := HX.out.all
  have HS := hide (HX.out.set3 r)
  have HBS := hide (below_setV HB.out (show w.heap.size ≤ w.heap.size + 1 by omega) r)
  clear HX HB hb H1
  unfold valAgg
  go_wp2_with fail
  exact end_v Try.results53 rfl rfl HS.out ⟨rfl, HBS.out⟩
set_option maxRecDepth 100000 in
set_option maxHeartbeats 2000000 in
theorem upcall_c (A : Option Addr) (c : Nat) (n : Int) (s : ByteArray) (w : World) (hm : s.size ≤ 1048576) (h : RowV w w.heap.size A 1 c [⟨3, n, s⟩]) : Calls Try.prog 29 #[.string upName, .slice A 1 c] w (GivesV w (strV (strL (upL s.data.toList)))) := by
  have HX := hide (vb_one w)
  have HB := hide (Bel.one w zO)
  have HR := hide (h.kept (Bel.one w zO))
  have QU := hide (fun W => upone_c n s W hm)
  generalize strV (strL (upL s.data.toList)) = r at *
  have m5 := n5
  have m6 := n6
  unfold valAgg at QU
  simp only at QU
  clear h
  go_enter Try.func29, Try.ntmps29
  go_upto_region 1 with (fail)
  generalize w.alloc (.cells #[.int .i64 0, .int .i64 0, .string { data := #[] }] 26) = w1 at *
  obtain ⟨blk, off, y, rfl, _, hy, hc⟩ := HR.out.at (by omega) (show 0 < 1 by omega)
  injection hy with hy
  subst hy
  have l0 := hc 0 _ rfl
  have l1 := hc 1 _ rfl
  have l2 := hc 2 _ rfl
  simp only [Nat.zero_mul, Nat.zero_add, Nat.add_zero] at l0 l1 l2
  clear hc
  go_wp2_with fail
  refine (QU.out _).mono ?_
  rintro e w2 ⟨rfl, hb⟩
  replace HX := hide (HX.out.kept hb)
  replace HB := hide (Bel.then HB.out hb)
  obtain ⟨⟨c0, c1, c2⟩, ⟨y0, y1, y2⟩⟩ := HX.out.all
  have HS := hide (HX.out.set3 r)
  have HBS := hide (below_setV HB.out (Nat.le_refl _) r)
  clear HX HB hb l0 l1 l2
  unfold valAgg
  go_wp2_with fail
  exact end_v Try.results29 rfl rfl HS.out ⟨rfl, HBS.out⟩
set_option maxRecDepth 100000 in
set_option maxHeartbeats 4000000 in
theorem coal_c (A : Option Addr) (n c : Nat) (l : List ValV) (w : World) (h : RowV w w.heap.size A n c l) : Calls Try.prog 29 #[.string coName, .slice A n c] w (GivesV w (coalV l)) := by
  have hmx := Nat.le_trans h.cap h.max
  unfold maxLen at hmx
  have HN := hide h.len
  obtain ⟨R, hR⟩ : ∃ R, coalV l = R := ⟨_, rfl⟩
  rw [hR]
  have HX0 := hide (vb_one w)
  have HB0 := hide (Bel.one w zO)
  have HR := hide h
  have HC0 : Hid (coalV (l.drop 0) = R) := hR
  have m7 := n7
  clear h hR
  go_enter Try.func29, Try.ntmps29
  go_upto_region 1 with (fail)
  generalize w.alloc (.cells #[.int .i64 0, .int .i64 0, .string { data := #[] }] 26) = w1 at *
  go_wp2_with fail
  go_loopw [6, 13] (fun _ v wr => ∃ j : Nat, v = .int .i64 j ∧ j ≤ n ∧ Hid (coalV (l.drop j) = R) ∧ Hid (VB wr w.heap.size nullV) ∧ Hid (Below w.heap.size w wr)) (fun _ v _ => n - (intOf v).toNat)
  case atStart => exact ⟨0, rfl, Nat.zero_le _, HC0, HX0, HB0⟩
  case round =>
    clear HC0 HX0 HB0
    obtain ⟨j, rfl, hj, HC, HX, HB⟩ := hrel
    by_cases hlt : j < n
    · have hlti : (j : Int) < n := by omega
      have hwk : IntKind.i64.wrap ((j : Int) + 1) = (j : Int) + 1 := IntWalk.i64_in _ (by omega)
      obtain ⟨blk, off, x, rfl, _, hx, hc⟩ := (HR.out.kept HB.out).at (by omega) hlt
      have hcc := HC.out
      rw [drop_at hx, coalV] at hcc
      have HCC := hide hcc
      have l0 := hc 0 _ rfl
      have l1 := hc 1 _ rfl
      have l2 := hc 2 _ rfl
      rw [Nat.add_zero] at l0
      rw [← Nat.add_assoc] at l1 l2
      obtain ⟨xk, xn, xs⟩ := x
      simp only at l0 l1 l2
      clear hc hx hcc HC
      obtain ⟨o, ho⟩ : ∃ o : Obj, o = .cells #[.int .i64 xk, .int .i64 xn, .string xs] 26 := ⟨_, rfl⟩
      have HY := hide (show VB (wr.alloc o) wr.heap.size ⟨xk, xn, xs⟩ by rw [ho]; exact vb_new wr _ _ _)
      replace HX := hide (HX.out.kept (Bel.one wr o))
      replace HB := hide (HB.out.alloc HB.out.size o)
      go_upto_region 5 with (fail)
      rw [← ho]
      clear ho l0 l1 l2
      generalize wr.alloc o = w3 at *
      obtain ⟨⟨d0, d1, d2⟩, _⟩ := HY.out.all
      by_cases hk : xk = 0
      · have hki : (xk != 0) = false := by simp [hk]
        have HC2 : Hid (coalV (l.drop (j + 1)) = R) := by
          have := HCC.out
          rw [if_pos hk] at this
          exact this
        clear HCC hk HY
        go_wp2_with fail
        go_roundw
        case rel => exact ⟨j + 1, by go_num, by omega, HC2, HX, HB⟩
        case measure => simp [intOf]; omega
      · have hki : (xk != 0) = true := by simp [hk]
        obtain rfl : (⟨xk, xn, xs⟩ : ValV) = R := by
          have := HCC.out
          rw [if_neg hk] at this
          exact this
        obtain ⟨⟨c0, c1, c2⟩, ⟨y0, y1, y2⟩⟩ := HX.out.all
        have HS := hide (HX.out.set3 ⟨xk, xn, xs⟩)
        have HBS := hide (below_setV HB.out (Nat.le_refl _) ⟨xk, xn, xs⟩)
        clear HX HB HCC hk HY
        go_wp2_with fail
        exact end_v Try.results29 rfl rfl HS.out ⟨rfl, HBS.out⟩
    · have hlti : ¬ (j : Int) < n := by omega
      obtain rfl : nullV = R := by
        have := HC.out
        rw [List.drop_of_length_le (by rw [HN.out]; omega)] at this
        exact this
      obtain ⟨⟨c0, c1, c2⟩, ⟨y0, y1, y2⟩⟩ := HX.out.all
      have HS := hide (HX.out.set3 nullV)
      have HBS := hide (below_setV HB.out (Nat.le_refl _) nullV)
      clear HX HB HC
      go_wp2_with fail
      exact end_v Try.results29 rfl rfl HS.out ⟨rfl, HBS.out⟩
end Go.Proofs.Ytlkeghfdpbfhbaa
