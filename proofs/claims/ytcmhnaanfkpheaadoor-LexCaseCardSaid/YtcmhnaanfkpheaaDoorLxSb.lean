/- LexCase: the walk. -/
import Derived.Test.YtcmhnaanfkpheaaDoorLxSa
import Derived.Test.YtcmhnaanfkpheaaDoorLxQ
import Derived.Laws.IdiomStrings
namespace Go.Proofs.YtcmhnaanfkpheaaDoor
set_option linter.unusedVariables false
open Go.ChangeShapes Go.WideShapes Go.ChangeAt Go.RowKit

def quotB (c : UInt8) : Bool := c == 39 || c == 34
theorem no_quote {l : List UInt8} (h : l.any quotB = false) : ∀ c ∈ l, c ≠ 39 ∧ c ≠ 34 := fun c hc => by
  have := List.any_eq_false.1 h c hc
  unfold quotB at this
  simpa using this
theorem any_at {l : List UInt8} {k : Nat} {c : UInt8} (h : l[k]? = some c) (hc : quotB c = true) : l.any quotB = true := List.any_eq_true.2 ⟨c, List.mem_of_getElem? h, hc⟩
set_option maxRecDepth 100000 in
set_option maxHeartbeats 1000000 in
theorem lawquoted_c (s : ByteArray) (w : World) (hm : s.size ≤ 1048576) : Calls Tryd.prog 19 #[.string s] w fun e w' => e = .returned (.bool (s.data.toList.any quotB)) ∧ w = w' := by
  have hl := str_len s
  obtain ⟨q, hq⟩ : ∃ q, s.data.toList.any quotB = q := ⟨_, rfl⟩
  rw [hq]
  have HQ := hide hq
  clear hq
  go_enter Tryd.func19, Tryd.ntmps19
  go_wp2_with fail
  go_loopw [3] (fun v wr => ∃ k : Nat, v = .int .i64 k ∧ k ≤ s.size ∧ Hid (∀ j c, j < k → s.data.toList[j]? = some c → quotB c = false) ∧ w = wr) (fun v _ => s.size - (intOf v).toNat)
  case atStart => exact ⟨0, rfl, Nat.zero_le _, (by intro j c hj; omega), (by first | rfl | trivial)⟩
  case round =>
    obtain ⟨k, rfl, hk, HN, rfl⟩ := hrel
    by_cases hlt : k < s.size
    · have hlti : (k : Int) < s.size := by omega
      have hwk : IntKind.i64.wrap ((k : Int) + 1) = (k : Int) + 1 := IntWalk.i64_in _ (by omega)
      have hg := str_at hlt
      generalize hc : s[k] = c at *
      have hcl := c.toNat_lt
      by_cases h39 : c = 39
      · have q1 : ((c.toNat : Int) == 39) = true := by rw [h39]; rfl
        obtain rfl : q = true := by rw [← HQ.out]; exact any_at hg (by rw [h39]; rfl)
        clear hg HN h39 HQ
        go_wp2_with fail
        go_ret
        exact ⟨rfl, rfl⟩
      · have q1 : ((c.toNat : Int) == 39) = false := byte_ne c 39 (by decide) h39
        by_cases h34 : c = 34
        · have q2 : ((c.toNat : Int) == 34) = true := by rw [h34]; rfl
          obtain rfl : q = true := by rw [← HQ.out]; exact any_at hg (by rw [h34]; rfl)
          clear hg HN h39 h34 HQ
          go_wp2_with fail
          go_ret
          exact ⟨rfl, rfl⟩
        · have q2 : ((c.toNat : Int) == 34) = false := byte_ne c 34 (by decide) h34
          have HN2 : Hid (∀ j d, j < k + 1 → s.data.toList[j]? = some d → quotB d = false) := fun j d hj hd => by
            by_cases e : j = k
            · subst e; rw [hg] at hd; injection hd with hd; subst hd; unfold quotB; simp [h39, h34]
            · exact HN.out j d (by omega) hd
          clear hg HN h39 h34
          go_wp2_with fail
          go_roundw
          case rel => exact ⟨k + 1, by go_num, by omega, HN2, (by first | rfl | trivial)⟩
          case measure => simp [intOf]; omega
    · have hlti : ¬ (k : Int) < s.size := by omega
      obtain rfl : q = false := by
        rw [← HQ.out, List.any_eq_false]
        intro c hc
        obtain ⟨j, hj⟩ := List.getElem?_of_mem hc
        have := (List.getElem?_eq_some_iff.1 hj).1
        rw [HN.out j c (by omega) hj]
        decide
      clear HN HQ
      go_wp2_with fail
      go_ret
      exact ⟨rfl, rfl⟩
/-- Block g holds the bytes l, not frozen. -/
def Holds (w : World) (g : Nat) (l : List UInt8) : Prop := ∀ j, j < l.length → w.cell? ⟨g, j, none⟩ = some (.int .u8 ((l.getD j 0).toNat : Int)) ∧ w.frozen? ⟨g, j, none⟩ = false
theorem made_bytes (w : World) (s : ByteArray) : ∃ cap W1, (convert 9 36 (.string s)).run Tryd.prog w = .ok (.slice (some ⟨w.heap.size, 0, none⟩) s.size cap) W1 ∧ s.size ≤ cap ∧ Below w.heap.size w W1 ∧ Holds W1 w.heap.size s.data.toList ∧ w.heap.size < W1.heap.size := by
  have hr := run_bytes_of_string (P := Tryd.prog) w 9 36 5 s Tryd.underlying9 Tryd.underlying36 Tryd.underlying5
  have hcap : s.size ≤ grownCap w s.size 0 5 := grownCap_ge _ _ _ _
  generalize grownCap w s.size 0 5 = c at *
  refine ⟨_, _, hr, hcap, ?_, ?_, ?_⟩
  · exact (Below.refl _ _).drew.alloc (Nat.le_refl _) _
  · intro j hj
    have hl := str_len s
    refine ⟨?_, ?_⟩
    · refine (cell_of_row (w.drew.alloc _) w.heap.size j _ _ _ (heap_alloc_new w.drew _)).trans ?_
      rw [bytesRow, Array.getElem?_append_left (by rw [Array.size_map]; show j < s.size; omega), Array.getElem?_map]
      have hj2 : j < s.data.size := by show j < s.size; omega
      rw [Array.getElem?_eq_getElem hj2, List.getD_eq_getElem?_getD, List.getElem?_eq_getElem hj]
      simp
    · have := World.frozen?_alloc_mark w.drew (bytesRow s c) 5 (bytesRow s c).size ((bytesRow s c).size + 1) j
      refine this.trans ?_
      have hz : s.size ≤ (bytesRow s c).size := by
        unfold bytesRow
        rw [Array.size_append, Array.size_map]
        exact Nat.le_add_right _ _
      simp
      omega
  · rw [World.size_alloc]
    exact Nat.lt_succ_self _
theorem Holds.set {w : World} {g : Nat} {l : List UInt8} (h : Holds w g l) {k : Nat} (hk : k < l.length) (x : UInt8) {v : Int} (hv : v = (x.toNat : Int)) : Holds (w.setCell ⟨g, k, none⟩ (.int .u8 v)) g (l.set k x) := by
  intro j hj
  rw [List.length_set] at hj
  obtain ⟨h1, h2⟩ := h j hj
  refine ⟨?_, by simpa using h2⟩
  by_cases e : k = j
  · subst e
    rw [World.cell?_setCell_same w _ _ (h k hk).1, List.getD_eq_getElem?_getD, List.getElem?_set_self hk, hv]
    rfl
  · rw [World.cell?_setCell_other w _ _ _ (fun q => e (by injection q)), h1, List.getD_eq_getElem?_getD, List.getD_eq_getElem?_getD, List.getElem?_set_ne e]
theorem back_c (w : World) (g cap : Nat) (l : List UInt8) (n : Nat) (hn : l.length = n) (h : ∀ j, j < l.length → w.cell? ⟨g, j, none⟩ = some (.int .u8 ((l.getD j 0).toNat : Int))) : (convert 36 9 (.slice (some ⟨g, 0, none⟩) n cap)).run Tryd.prog w = .ok (.string (strL l)) w := by
  subst hn
  refine run_convert_bytes_back (P := Tryd.prog) w 36 9 5 ⟨g, 0, none⟩ cap l Tryd.underlying36 Tryd.underlying5 Tryd.underlying9 ?_
  intro j hj
  have := h j hj
  rw [List.getD_eq_getElem?_getD, List.getElem?_eq_getElem hj] at this
  rw [add_off, Nat.zero_add]
  exact this
/-- Made great up to a place. -/
def upTo (l : List UInt8) (k : Nat) : List UInt8 := (l.take k).map upc ++ l.drop k
theorem upTo_len (l : List UInt8) (k : Nat) : (upTo l k).length = l.length := by unfold upTo; rw [List.length_append, List.length_map, List.length_take, List.length_drop]; omega
theorem upTo_all (l : List UInt8) : upTo l l.length = l.map upc := by unfold upTo; rw [List.take_length, List.drop_length, List.append_nil]
theorem upTo_at {l : List UInt8} {k : Nat} {c : UInt8} (h : l[k]? = some c) : (upTo l k).getD k 0 = c ∧ upTo l (k + 1) = (upTo l k).set k (upc c) ∧ (upc c = c → upTo l (k + 1) = upTo l k) := by
  have hk := (List.getElem?_eq_some_iff.1 h).1
  have hlen : ((l.take k).map upc).length = k := by rw [List.length_map, List.length_take]; omega
  have h1 : (upTo l k)[k]? = some c := by
    unfold upTo
    rw [List.getElem?_append_right (by omega), hlen, Nat.sub_self, List.getElem?_drop, Nat.add_zero, h]
  have h2 : upTo l (k + 1) = (upTo l k).set k (upc c) := by
    unfold upTo
    rw [take_at h, drop_at h, List.map_append, List.set_append_right _ _ (by omega), hlen, Nat.sub_self]
    simp
  refine ⟨by rw [List.getD_eq_getElem?_getD, h1]; rfl, h2, fun e => ?_⟩
  rw [h2, e]
  apply List.ext_getElem?
  intro j
  rw [List.getElem?_set]
  split
  · rename_i e2
    subst e2
    rw [upTo_len, if_pos hk, h1]
  · rfl
theorem toksS_up (l : List UInt8) (h : l.any quotB = false) : tokensS (l.map upc) = tokensS l := by
  unfold tokensS
  rw [List.length_map, toks_up l (no_quote h)]
set_option maxRecDepth 100000 in
set_option maxHeartbeats 4000000 in
theorem lexcase_w (s : ByteArray) (w : World) (hM : ∃ m, w.cell? ⟨1, 0, none⟩ = some (.int .i64 m)) : Calls Tryd.prog 7 #[.string s] w fun e w' => e = .returned (.bool true) ∧ Below w.heap.size w w' := by
  have HM := hide hM
  have hl := str_len s
  clear hM
  by_cases h600 : 300 < s.size
  · have h600i : (300 : Int) < s.size := by omega
    go_enter Tryd.func7, Tryd.ntmps7
    go_wp2_with fail
    refine (awake_c _ HM.out).mono ?_
    rintro e w1 ⟨rfl, hb⟩
    go_wp2_with fail
    go_ret
    exact ⟨rfl, hb⟩
  · have h600i : ¬ (300 : Int) < s.size := by omega
    have QQ := hide (fun W => lawquoted_c s W (by omega))
    cases hq : s.data.toList.any quotB with
    | true =>
      rw [hq] at QQ
      go_enter Tryd.func7, Tryd.ntmps7
      go_wp2_with fail
      refine (QQ.out _).mono ?_
      rintro e w0 ⟨rfl, rfl⟩
      go_wp2_with fail
      refine (awake_c _ HM.out).mono ?_
      rintro e w1 ⟨rfl, hb⟩
      go_wp2_with fail
      go_ret
      exact ⟨rfl, hb⟩
    | false =>
      rw [hq] at QQ
      have QT := hide (fun W h => tokens_c s W h (by omega))
      have QU := hide (fun W h => tokens_c (strL (s.data.toList.map upc)) W h (by rw [strL_size, List.length_map]; omega))
      rw [strL_list, toksS_up _ hq] at QU
      generalize tokensS s.data.toList = R at *
      obtain ⟨xs, P, E⟩ := R
      obtain ⟨n, hn⟩ : ∃ n, xs.length = n := ⟨_, rfl⟩
      obtain ⟨cap, W1, hr, hcap, hb, hh, hz⟩ := made_bytes w s
      have HH := hide hh
      have HB := hide hb
      have HZ := hide hz
      clear hh hb hz hq
      go_enter Tryd.func7, Tryd.ntmps7
      go_wp2_with fail
      refine (QQ.out _).mono ?_
      rintro e w0 ⟨rfl, rfl⟩
      go_wp2_with fail
      go_loopw [4] (fun v wr => ∃ k : Nat, v = .int .i64 k ∧ k ≤ s.size ∧ Hid (Below w.heap.size w wr) ∧ Hid (w.heap.size < wr.heap.size) ∧ Hid (Holds wr w.heap.size (upTo s.data.toList k))) (fun v _ => s.size - (intOf v).toNat)
      case atStart => exact ⟨0, rfl, Nat.zero_le _, HB, HZ, HH⟩
      case round =>
        clear HB HZ HH hr
        obtain ⟨k, rfl, hk, HB, HZ, HH⟩ := hrel
        by_cases hlt : k < s.size
        · have hlti : (k : Int) < s.size := by omega
          have hwk : IntKind.i64.wrap ((k : Int) + 1) = (k : Int) + 1 := IntWalk.i64_in _ (by omega)
          have hg := str_at hlt
          generalize hc : s[k] = c at *
          obtain ⟨u1, u2, u3⟩ := upTo_at hg
          have hkl : k < (upTo s.data.toList k).length := by rw [upTo_len]; omega
          obtain ⟨hcell, hfr⟩ := HH.out k hkl
          rw [u1] at hcell
          have hcl := c.toNat_lt
          by_cases h97 : 97 ≤ c.toNat
          · have p1 : (97 : Int) ≤ (c.toNat : Int) := by omega
            by_cases h122 : c.toNat ≤ 122
            · have p2 : (c.toNat : Int) ≤ 122 := by omega
              obtain ⟨y, hy⟩ : ∃ y, upc c = y := ⟨_, rfl⟩
              have hyc : (y.toNat : Int) = (c.toNat : Int) - 32 := by
                rw [← hy]
                unfold upc
                rw [if_pos (by rw [decide_eq_true h97, decide_eq_true h122]; rfl), UInt8.toNat_sub]
                have : (32 : UInt8).toNat = 32 := rfl
                rw [this]
                omega
              have f1 : IntKind.u8.wrap ((c.toNat : Int) - 32) = (y.toNat : Int) := by rw [← hyc]; exact IntWalk.u8_in _ (by have := y.toNat_lt; omega)
              have HH2 : Hid (Holds (wr.setCell ⟨w.heap.size, k, none⟩ (.int .u8 (y.toNat : Int))) w.heap.size (upTo s.data.toList (k + 1))) := by
                rw [hy] at u2
                have := HH.out.set hkl y (v := (y.toNat : Int)) rfl
                rw [← u2] at this
                exact this
              have HB2 := hide (HB.out.setCell (p := ⟨w.heap.size, k, none⟩) (Nat.le_refl _) (.int .u8 (y.toNat : Int)))
              have HZ2 : Hid (w.heap.size < (wr.setCell ⟨w.heap.size, k, none⟩ (.int .u8 (y.toNat : Int))).heap.size) := by
                have := HZ.out
                show _ < _
                simpa [World.setCell] using this
              clear u1 u2 u3 hkl hg hy hyc HH HB HZ h97 h122
              go_wp2_with fail
              go_roundw
              case rel => exact ⟨k + 1, by go_num, by omega, HB2, HZ2, HH2⟩
              case measure => simp [intOf]; omega
            · have p2 : ¬ (c.toNat : Int) ≤ 122 := by omega
              have HH2 : Hid (Holds wr w.heap.size (upTo s.data.toList (k + 1))) := by
                rw [u3 (by unfold upc; rw [if_neg (by rw [decide_eq_false h122, Bool.and_false]; decide)])]
                exact HH
              clear u1 u2 u3 hkl hg HH h97 h122
              go_wp2_with fail
              go_roundw
              case rel => exact ⟨k + 1, by go_num, by omega, HB, HZ, HH2⟩
              case measure => simp [intOf]; omega
          · have p1 : ¬ (97 : Int) ≤ (c.toNat : Int) := by omega
            have HH2 : Hid (Holds wr w.heap.size (upTo s.data.toList (k + 1))) := by
              rw [u3 (by unfold upc; rw [if_neg (by rw [decide_eq_false h97, Bool.false_and]; decide)])]
              exact HH
            clear u1 u2 u3 hkl hg HH h97
            go_wp2_with fail
            go_roundw
            case rel => exact ⟨k + 1, by go_num, by omega, HB, HZ, HH2⟩
            case measure => simp [intOf]; omega
        · have hlti : ¬ (k : Int) < s.size := by omega
          have hkk : k = s.size := by omega
          have hall : upTo s.data.toList k = s.data.toList.map upc := by rw [hkk, ← hl]; exact upTo_all _
          have HM1 := hide (max_kept HM.out HB.out)
          have HC : Hid (∀ W2, Below wr.heap.size wr W2 → (convert 36 9 (.slice (some ⟨w.heap.size, 0, none⟩) s.size cap)).run Tryd.prog W2 = .ok (.string (strL (s.data.toList.map upc))) W2) := fun W2 hb2 => by
            refine back_c W2 w.heap.size cap _ s.size (by rw [List.length_map]; exact hl) fun j hj => ?_
            have h1 := HH.out j (by rw [hall]; exact hj)
            rw [hall] at h1
            exact kept hb2 h1.1
          clear HH hall hkk HZ HM
          go_wp2_with fail
          refine (QT.out _ HM1.out).mono ?_
          rintro e w2 ⟨v1, rfl, hb, hown⟩
          obtain ⟨A1, c1, rfl, hs1⟩ := toks_at hown
          replace HM1 := hide (max_kept HM1.out hb)
          have hcv := HC.out w2 hb
          have HS1 := hide hs1
          replace HB := hide (Bel.then HB.out hb)
          clear hown hs1 hb QT HC
          generalize strL (s.data.toList.map upc) = u at *
          go_wp2_with fail
          refine (QU.out _ HM1.out).mono ?_
          rintro e w3 ⟨v2, rfl, hb, hown⟩
          obtain ⟨A2, c2, rfl, hs2⟩ := toks_at hown
          replace HM1 := hide (max_kept HM1.out hb)
          replace HS1 := hide (HS1.out.kept hb)
          have HS2 := hide hs2
          replace HB := hide (Bel.then HB.out hb)
          clear hown hs2 hb QU hcv
          simp only [hn] at HS1 HS2 ⊢
          go_wp2_with fail
          refine (awake_c _ HM1.out).mono ?_
          rintro e w4 ⟨rfl, hb⟩
          replace HS1 := hide (HS1.out.kept hb)
          replace HS2 := hide (HS2.out.kept hb)
          replace HB := hide (Bel.then HB.out hb)
          clear hb HM1
          go_wp2_with fail
          refine (rsame_c A1 A2 c1 c2 n xs _ HS1.out HS2.out).mono ?_
          rintro e w5 ⟨rfl, hb⟩
          replace HB := hide (Bel.then HB.out hb)
          clear hb HS1 HS2
          go_wp2_with fail
          go_ret
          exact ⟨rfl, HB.out⟩
end Go.Proofs.YtcmhnaanfkpheaaDoor
