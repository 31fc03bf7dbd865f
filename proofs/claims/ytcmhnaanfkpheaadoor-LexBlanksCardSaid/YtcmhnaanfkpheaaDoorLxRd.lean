/- The contract of the reference's sign. -/
import Derived.Test.YtcmhnaanfkpheaaDoorLxRa
namespace Go.Proofs.YtcmhnaanfkpheaaDoor
set_option linter.unusedVariables false
open Go.ChangeShapes Go.WideShapes Go.ChangeAt Go.RowKit

def T2 : List (List UInt8) := [[124, 124], [60, 62], [60, 61], [62, 61]]
def S1 : List UInt8 := [40, 41, 44, 46, 59, 43, 45, 42, 47, 37, 61, 60, 62]
theorem t2_two {x : List UInt8} (h : x ∈ T2) : x.length = 2 := by
  have : T2.all (fun x => x.length == 2) = true := by decide
  exact eq_of_beq (List.all_eq_true.1 this x h)
theorem sign_two {x t : List UInt8} {c : UInt8} (hx : x ∈ T2) (h : (c :: t).take 2 = x) : tokSign (c :: t) = ⟨5, 2, 0, x, 0⟩ := by
  cases t with
  | nil => have := t2_two hx; rw [← h] at this; simp at this
  | cons d t =>
    rw [show (c :: d :: t).take 2 = [c, d] from rfl] at h
    subst h
    unfold T2 at hx
    simp only [List.mem_cons, List.not_mem_nil, or_false, List.cons.injEq, and_true] at hx
    rcases hx with ⟨rfl, rfl⟩ | ⟨rfl, rfl⟩ | ⟨rfl, rfl⟩ | ⟨rfl, rfl⟩ <;> rfl
theorem no_two {t : List UInt8} {c d : UInt8} (h : ∀ x ∈ T2, (c :: t).take 2 ≠ x) (hm : [c, d] ∈ T2) : (t.head? == some d) = false := by
  cases t with
  | nil => rfl
  | cons y t =>
    show (some y == some d) = false
    rw [beq_eq_false_iff_ne]
    intro e
    injection e with e
    subst e
    exact h _ hm rfl
theorem signB_one {t : List UInt8} {c : UInt8} (h : ∀ x ∈ T2, (c :: t).take 2 ≠ x) : signB (c :: t) = if c ∈ S1 then 1 else 0 := by
  unfold signB
  by_cases h1 : c = 124
  · subst h1
    have := no_two (d := 124) h (by decide)
    simp only [this]
    rfl
  by_cases h2 : c = 60
  · subst h2
    have e1 := no_two (d := 62) h (by decide)
    have e2 := no_two (d := 61) h (by decide)
    simp only [e1, e2]
    rfl
  by_cases h3 : c = 62
  · subst h3
    have e1 := no_two (d := 61) h (by decide)
    simp only [e1]
    rfl
  have e1 : (c == 124) = false := by simpa using h1
  have e2 : (c == 60) = false := by simpa using h2
  have e3 : (c == 62) = false := by simpa using h3
  simp only [e1, e2, e3, Bool.false_eq_true, if_false]
  have e4 : ([40, 41, 44, 46, 59, 43, 45, 42, 47, 37, 61].contains c = true) = (c ∈ S1) := by
    unfold S1
    simp [h2, h3]
  simp only [e4]
theorem sign_single {t : List UInt8} {c : UInt8} (h : ∀ x ∈ T2, (c :: t).take 2 ≠ x) (hc : c ∈ S1) : tokSign (c :: t) = ⟨5, 1, 0, [c], 0⟩ := by
  unfold tokSign
  rw [signB_one h, if_pos hc]
  rfl
theorem sign_none {t : List UInt8} {c : UInt8} (h : ∀ x ∈ T2, (c :: t).take 2 ≠ x) (hc : ¬ c ∈ S1) : tokSign (c :: t) = tokBad 2 := by
  unfold tokSign
  rw [signB_one h, if_neg hc]
  rfl
abbrev twoObj : Obj := .cells #[.string { data := #[124, 124] }, .string { data := #[60, 62] }, .string { data := #[60, 61] }, .string { data := #[62, 61] }] 9
theorem two_cells (w : World) (i : Nat) (x : List UInt8) (h : T2[i]? = some x) : (w.alloc twoObj).cell? ⟨w.heap.size, i, none⟩ = some (.string (strL x)) := by
  have hh := heap_alloc_new w twoObj
  match i, h with
  | 0, h => injection h with h; subst h; exact Lib.cell_of_heap hh 0
  | 1, h => injection h with h; subst h; exact Lib.cell_of_heap hh 1
  | 2, h => injection h with h; subst h; exact Lib.cell_of_heap hh 2
  | 3, h => injection h with h; subst h; exact Lib.cell_of_heap hh 3
  | i + 4, h => exact absurd h (by simp [T2])
set_option maxRecDepth 100000 in
set_option maxHeartbeats 4000000 in
theorem rsign_c (s : ByteArray) (a : Nat) (w : World) (ha : a < s.size) (hm : s.size ≤ 1048576) : Calls Tryd.prog 30 #[.string s, .int .i64 a] w (GivesTok w (tokSign (s.data.toList.drop a)) a) := by
  have hl := str_len s
  have hd := drop_str ha
  obtain ⟨t, ht⟩ : ∃ t, s.data.toList.drop (a + 1) = t := ⟨_, rfl⟩
  obtain ⟨m, hmm⟩ : ∃ m, a + 2 = m := ⟨_, rfl⟩
  have hex : s.extract a m = strL ((s.data.toList.drop a).take 2) := by rw [strL_extract, ← hmm, Nat.add_sub_cancel_left]
  have hp2 : ¬ m ≤ s.size → ∀ x ∈ T2, (s.data.toList.drop a).take 2 ≠ x := fun hn x hx e => by
    have := t2_two hx
    rw [← e, List.length_take, List.length_drop] at this
    omega
  rw [hd, ht] at hex hp2 ⊢
  have hai : (a : Int) < s.size := by omega
  have ha0 : (0 : Int) ≤ (a : Int) := by omega
  generalize hc : s[a] = c at *
  have hcl := c.toNat_lt
  obtain ⟨p2, hpp⟩ : ∃ p2, (c :: t).take 2 = p2 := ⟨_, rfl⟩
  rw [hpp] at hex hp2
  have HP2 := hide hpp
  have HN2 := hide hp2
  obtain ⟨T, hTT⟩ : ∃ T, tokSign (c :: t) = T := ⟨_, rfl⟩
  rw [hTT]
  have HT := hide hTT
  have f1 : IntKind.i64.wrap ((a : Int) + 2) = (m : Int) := by rw [IntWalk.i64_in _ (by omega)]; omega
  have f1' : ((a : Int) + 2) = (m : Int) := by omega
  have f1w : IntKind.i64.wrap (m : Int) = (m : Int) := IntWalk.i64_in _ (by omega)
  have b1 : a ≤ m := by omega
  have b3 : (a : Int) ≤ (m : Int) := by omega
  have HX := hide ((tb_new w).kept (Bel.one (w.alloc tok0) twoObj))
  have HB := hide ((Bel.one w tok0).alloc (by have := (Bel.one w tok0).size; exact this) twoObj)
  have HC := hide (two_cells (w.alloc tok0))
  have hsz : (w.alloc tok0).heap.size = w.heap.size + 1 := World.size_alloc _ _
  have HSZ := hide hsz
  obtain ⟨g, hg⟩ : ∃ g, (w.alloc tok0).heap.size = g := ⟨_, rfl⟩
  have QB := hide (fun W => rbad_c a 2 W)
  clear hd ht hpp hp2 hTT hmm hsz
  go_enter Tryd.func30, Tryd.ntmps30
  go_upto_region 1 with (fail)
  generalize hw1 : w.alloc (.cells #[.int .i64 0, .int .i64 0, .int .i64 0, .int .i64 0, .string { data := #[] }] 24) = w1 at *
  rw [hg] at HC
  go_upto_region 2 with (fail)
  generalize w1.alloc (.cells #[.string { data := #[124, 124] }, .string { data := #[60, 62] }, .string { data := #[60, 61] }, .string { data := #[62, 61] }] 9) = w2 at *
  clear hw1 hg HSZ
  go_wp2_with fail
  go_loopw [7] (fun v wr => ∃ k : Nat, v = .int .i64 k ∧ k ≤ 4 ∧ Hid (∀ j x, j < k → T2[j]? = some x → p2 ≠ x) ∧ Hid (TokBox wr w.heap.size 0 0 0 0 { data := #[] }) ∧ Hid (Below w.heap.size w wr) ∧ Hid (∀ i x, T2[i]? = some x → wr.cell? ⟨g, i, none⟩ = some (.string (strL x)))) (fun v _ => 4 - (intOf v).toNat)
  case atStart => exact ⟨0, rfl, Nat.zero_le _, (by intro j x hj; omega), HX, HB, HC⟩
  case round =>
    clear HX HB HC
    obtain ⟨k, rfl, hk, HN, HX, HB, HC⟩ := hrel
    have HXD := hide (fun n => (show TokBox (wr.drewN n) w.heap.size 0 0 0 0 { data := #[] } from HX.out))
    have HBD := hide (fun n => (show Below w.heap.size w (wr.drewN n) from HB.out.trans ⟨rfl, rfl, rfl, Nat.le_refl _, fun _ _ => rfl⟩))
    have HCD := hide (fun n => (show ∀ i x, T2[i]? = some x → (wr.drewN n).cell? ⟨g, i, none⟩ = some (.string (strL x)) from HC.out))
    by_cases hlt : k < 4
    · have hlti : (k : Int) < 4 := by omega
      have f0 : decide ((k : Int) < 4) = true := decide_eq_true hlti
      have hwk : IntKind.i64.wrap ((k : Int) + 1) = (k : Int) + 1 := IntWalk.i64_in _ (by omega)
      obtain ⟨x, hx⟩ : ∃ x, T2[k]? = some x := ⟨_, List.getElem?_eq_getElem (by show k < 4; exact hlt)⟩
      have hcell := HC.out k x hx
      have HXM := hide (List.mem_of_getElem? hx)
      have hq := str_eq_of (strL_list p2) (strL_list x)
      obtain ⟨sp, hsp⟩ : ∃ sp, strL p2 = sp := ⟨_, rfl⟩
      obtain ⟨sx, hsx⟩ : ∃ sx, strL x = sx := ⟨_, rfl⟩
      have HSX := hide hsx
      rw [hsp] at hex hq
      rw [hsx] at hcell hq
      have hstep : ∀ _ : p2 ≠ x, Hid (∀ j y, j < k + 1 → T2[j]? = some y → p2 ≠ y) := fun hne j y hj hy => by
        by_cases e : j = k
        · subst e; rw [hx] at hy; injection hy with hy; rw [← hy]; exact hne
        · exact HN.out j y (by omega) hy
      by_cases hms : m ≤ s.size
      · have b2 : (m : Int) ≤ (s.size : Int) := by omega
        by_cases he : p2 = x
        · rw [decide_eq_true he] at hq
          obtain rfl : (⟨5, 2, 0, x, 0⟩ : Tok) = T := by rw [← HT.out]; exact (sign_two HXM.out (by rw [HP2.out]; exact he)).symm
          obtain ⟨⟨c0, c1, c2, c3, c4⟩, ⟨y0, y1, y2, y3, y4⟩⟩ := HX.out.all
          have HS := hide (fun n => (HXD.out n).set5 5 a 2 0 sx)
          have HBS := hide (fun n => below_set5 (HBD.out n) (Nat.le_refl _) (.int .i64 5) (.int .i64 a) (.int .i64 2) (.int .i64 0) (.string sx))
          clear HX HB HC HXD HBD HCD HT he hx hstep hsp hsx HN HN2
          go_upto_region 5 with (fail)
          go_quiet (fail)
          go_wp2_with fail
          exact end_tok Tryd.results30 rfl rfl (HS.out _) rfl ⟨by rw [← HSX.out]; rfl, HBS.out _⟩
        · rw [decide_eq_false he] at hq
          have HN3 := hstep he
          clear he hx hstep hsp hsx HN HN2
          go_upto_region 5 with (fail)
          go_quiet (fail)
          go_wp2_with fail
          go_roundw
          case rel => exact ⟨k + 1, by go_num, by omega, HN3, HXD.out _, HBD.out _, HCD.out _⟩
          case measure => simp [intOf]; omega
      · have b2 : ¬ (m : Int) ≤ (s.size : Int) := by omega
        have HN3 := hstep (HN2.out hms x HXM.out)
        clear hx hstep hsp hsx HN HN2 hq
        go_upto_region 5 with (fail)
        go_quiet (fail)
        go_wp2_with fail
        go_roundw
        case rel => exact ⟨k + 1, by go_num, by omega, HN3, HXD.out _, HBD.out _, HCD.out _⟩
        case measure => simp [intOf]; omega
    · have hlti : ¬ (k : Int) < 4 := by omega
      have f0 : decide ((k : Int) < 4) = false := decide_eq_false hlti
      have HNO : Hid (∀ x ∈ T2, (c :: t).take 2 ≠ x) := fun x hx => by
        obtain ⟨j, hj⟩ := List.getElem?_of_mem hx
        have h4 : j < T2.length := (List.getElem?_eq_some_iff.1 hj).1
        have h4' : T2.length = 4 := rfl
        rw [HP2.out]
        exact HN.out j x (by omega) hj
      clear HN HN2 HP2 HC HXD HBD HCD hex
      go_upto_region 8 with (fail)
      generalize hA : ByteArray.mk _ = A
      have hS : A.data.toList = S1 := by rw [← hA]; rfl
      have hz : A.size = 13 := by rw [← hA]; rfl
      have HA := hide hS
      clear hA hS
      go_wp2_with fail
      go_loopw [9] (fun v wr => ∃ i : Nat, v = .int .i64 i ∧ i ≤ 13 ∧ Hid (∀ j x, j < i → S1[j]? = some x → c ≠ x) ∧ Hid (TokBox wr w.heap.size 0 0 0 0 { data := #[] }) ∧ Hid (Below w.heap.size w wr)) (fun v _ => 13 - (intOf v).toNat)
      case atStart => exact ⟨0, rfl, Nat.zero_le _, (by intro j x hj; omega), HX, HB⟩
      case round =>
        clear HX HB
        obtain ⟨i, rfl, hi, HN, HX, HB⟩ := hrel
        have HXD := hide (fun n => (show TokBox (wr.drewN n) w.heap.size 0 0 0 0 { data := #[] } from HX.out))
        have HBD := hide (fun n => (show Below w.heap.size w (wr.drewN n) from HB.out.trans ⟨rfl, rfl, rfl, Nat.le_refl _, fun _ _ => rfl⟩))
        by_cases hlt2 : i < 13
        · have hlt3 : i < A.size := by omega
          have hlti2 : (i : Int) < (A.size : Int) := by omega
          obtain ⟨j, hj⟩ : ∃ j, i + 1 = j := ⟨_, rfl⟩
          have e1 : IntKind.i64.wrap ((i : Int) + 1) = (j : Int) := by rw [IntWalk.i64_in _ (by omega)]; omega
          have e1' : ((i : Int) + 1) = (j : Int) := by omega
          have e1w : IntKind.i64.wrap (j : Int) = (j : Int) := IntWalk.i64_in _ (by omega)
          have d1 : i ≤ j := by omega
          have d2 : j ≤ A.size := by omega
          have d3 : (i : Int) ≤ (j : Int) := by omega
          have d4 : (j : Int) ≤ (A.size : Int) := by omega
          have d5 : j ≤ 13 := by omega
          have d6 : (j : Int) ≤ 13 := by omega
          have hat := str_at hlt3
          rw [HA.out] at hat
          have hxe : A.extract i j = strL [A[i]] := by rw [strL_extract, drop_str hlt3, ← hj, Nat.add_sub_cancel_left]; rfl
          generalize hx : A[i] = x at *
          have hxl := x.toNat_lt
          by_cases hcx : c = x
          · have q : ((x.toNat : Int) == (c.toNat : Int)) = true := by rw [hcx]; exact beq_self_eq_true _
            obtain rfl : (⟨5, 1, 0, [x], 0⟩ : Tok) = T := by rw [← HT.out, sign_single HNO.out (by rw [hcx]; exact List.mem_of_getElem? hat), hcx]
            obtain ⟨u, hu⟩ : ∃ u, strL [x] = u := ⟨_, rfl⟩
            have HU := hide hu
            rw [hu] at hxe
            obtain ⟨⟨c0, c1, c2, c3, c4⟩, ⟨y0, y1, y2, y3, y4⟩⟩ := HX.out.all
            have HS := hide (fun n => (HXD.out n).set5 5 a 1 0 u)
            have HBS := hide (fun n => below_set5 (HBD.out n) (Nat.le_refl _) (.int .i64 5) (.int .i64 a) (.int .i64 1) (.int .i64 0) (.string u))
            clear HX HB HXD HBD HT hcx hat HN HNO hu hj
            go_upto_region 11 with (fail)
            go_quiet (fail)
            go_wp2_with fail
            exact end_tok Tryd.results30 rfl rfl (HS.out _) rfl ⟨by rw [← HU.out]; rfl, HBS.out _⟩
          · have q : ((x.toNat : Int) == (c.toNat : Int)) = false := by
              rw [beq_eq_false_iff_ne]
              intro e
              exact hcx (UInt8.toNat_inj.1 (by omega))
            have HN3 : Hid (∀ y z, y < j → S1[y]? = some z → c ≠ z) := fun y z hy hz => by
              by_cases e : y = i
              · subst e; rw [hat] at hz; injection hz with hz; rw [← hz]; exact hcx
              · exact HN.out y z (by omega) hz
            have hjl : j ≤ 13 := by omega
            have hmi : 13 - j < 13 - i := by omega
            clear hcx hat HN hj hxe
            go_upto_region 11 with (fail)
            go_quiet (fail)
            go_wp2_with fail
            go_roundw
            case rel => exact ⟨j, rfl, hjl, HN3, HXD.out _, HBD.out _⟩
            case measure => simpa [intOf] using hmi
        · have hlti2 : ¬ (i : Int) < (A.size : Int) := by omega
          obtain rfl : tokBad 2 = T := by
            rw [← HT.out]
            refine (sign_none HNO.out fun hc => ?_).symm
            obtain ⟨j, hj⟩ := List.getElem?_of_mem hc
            have h4 : j < S1.length := (List.getElem?_eq_some_iff.1 hj).1
            have h4' : S1.length = 13 := rfl
            exact HN.out j c (by omega) hj rfl
          clear HT HNO HN
          go_wp2_with fail
          refine (QB.out _).mono ?_
          rintro e3 w3 ⟨rfl, hb3⟩
          replace HX := hide (HX.out.kept hb3)
          replace HB := hide (Bel.then HB.out hb3)
          obtain ⟨⟨c0, c1, c2, c3, c4⟩, ⟨y0, y1, y2, y3, y4⟩⟩ := HX.out.all
          have HS := hide (HX.out.set5 0 a 0 0 { data := #[] })
          have HBS := hide (below_set5 HB.out (Nat.le_refl _) (.int .i64 0) (.int .i64 a) (.int .i64 0) (.int .i64 0) (.string { data := #[] }))
          clear hb3 HX HB
          unfold tokAgg
          go_wp2_with fail
          exact end_tok Tryd.results30 rfl rfl HS.out rfl ⟨rfl, HBS.out⟩
end Go.Proofs.YtcmhnaanfkpheaaDoor
