/- The contract of the reference: the first value of bytes. -/
import Derived.Test.YtiealokabmjfjaaKcR
import Derived.Test.YtiealokabmjfjaaKcF
namespace Go.Proofs.Ytiealokabmjfjaa
set_option linter.unusedVariables false
open Go.ChangeShapes Go.WideShapes Go.ChangeAt Go.RowKit

def firstR (l : List UInt8) : ValV × Nat := if (firstN l).1.kind = 1 ∧ 2 ≤ (firstN l).1.num then (null, 0) else firstN l
theorem firstR_of {l : List UInt8} {x : ValV × Nat} (h : firstN l = x) (hk : ¬ (x.1.kind = 1 ∧ 2 ≤ x.1.num)) : firstR l = x := by
  unfold firstR
  rw [h, if_neg hk]
theorem getK_R (f : Nat) (c : UInt8) (l : List UInt8) : getK (f + 1) (c :: l) = if (firstR (c :: l)).2 = 0 ∨ rightP (firstR (c :: l)).1 = false then none else (getK f ((c :: l).drop (firstR (c :: l)).2)).map ((firstR (c :: l)).1 :: ·) := by
  have h0 : getK (f + 1) (c :: l) = if (firstN (c :: l)).2 = 0 ∨ rightP (firstN (c :: l)).1 = false then none else (getK f ((c :: l).drop (firstN (c :: l)).2)).map ((firstN (c :: l)).1 :: ·) := rfl
  rw [h0]
  by_cases h : (firstN (c :: l)).1.kind = 1 ∧ 2 ≤ (firstN (c :: l)).1.num
  · have hr : rightP (firstN (c :: l)).1 = false := by
      cases hx : rightP (firstN (c :: l)).1
      · rfl
      · exfalso
        rcases right_kinds hx with e | e | e | ⟨n, e, _⟩ | ⟨s, e, _⟩ <;> rw [e] at h <;> revert h <;> simp
    have hR : firstR (c :: l) = (null, 0) := by unfold firstR; rw [if_pos h]
    rw [if_pos (.inr hr), hR, if_pos (.inl rfl)]
  · have hR : firstR (c :: l) = firstN (c :: l) := by unfold firstR; rw [if_neg h]
    rw [hR]
theorem index_none : ∀ l : List UInt8, (∀ b ∈ l, b ≠ 0) → Lib.indexByte l 0 < 0
  | [], _ => by show (-1 : Int) < 0; omega
  | b :: l, h => by
    have ih := index_none l (fun c hc => h c (List.mem_cons_of_mem _ hc))
    have hge := Lib.indexByte_ge l 0
    have hb : (b == 0) = false := by simpa using h b List.mem_cons_self
    have he : Lib.indexByte l 0 = -1 := by omega
    rw [Lib.indexByte, hb, he]
    decide
theorem index_at {l : List UInt8} {K : Nat} (hK : l[K]? = some 0) (h : ∀ b ∈ l.take K, b ≠ 0) : Lib.indexByte l 0 = K := by
  have e : l = l.take K ++ 0 :: l.drop (K + 1) := by
    conv => lhs; rw [← List.take_append_drop K l]
    rw [drop_at hK]
  have hl := (List.getElem?_eq_some_iff.1 hK).1
  conv => lhs; rw [e]
  rw [index_first _ _ h, List.length_take]
  omega
theorem null_end {f : Func} {p y : Tmp} (hf : f.results = #[.cell p 39, .tmp y]) {a : Act} {w : World} {Q : Ending → World → Prop} (hp : a.tmps.getD p undef = .pointer (some ⟨w.heap.size, 0, none⟩)) (hd : a.defers = []) {n : Nat} (h1 : a.tmps.getD y undef = .int .i64 n)
    (hq : Q (.returned (.tuple #[valAgg null, .int .i64 n])) (w.alloc (.cells #[.int .i64 0, .int .i64 0, .string { data := #[] }] 39))) : bodyPost Try.prog f Q .ret a (w.alloc (.cells #[.int .i64 0, .int .i64 0, .string { data := #[] }] 39)) :=
  end_val2 hf hp hd (vbox_new w null) h1 hq
set_option maxRecDepth 100000 in
set_option maxHeartbeats 2000000 in
theorem rfirst_c (s : ByteArray) (w : World) (hs : 0 < s.size) (hm : s.size ≤ 2000000000) : Calls Try.prog 20 #[.string s] w (GivesF w (firstR s.data.toList)) := by
  have hl := str_len s
  have hd : s.data.toList = s[0] :: s.data.toList.drop 1 := by
    have := drop_at (str_get hs)
    rwa [List.drop_zero] at this
  have hsl : ∀ W, (Instr.slice 9 (.string s) (some (.int .i64 1)) none none).run Try.prog W = .ok (.string (s.extract 1 s.size)) W := fun W => by
    rw [run_slice_string_l (P := Try.prog) W 9 s Try.underlying9 .i64 1 (by omega) (by omega)]
    rfl
  have hrl : (s.extract 1 s.size).data.toList = s.data.toList.drop 1 := by
    rw [ByteArray.data_extract, Array.toList_extract, List.extract_eq_take_drop, List.take_of_length_le (by rw [List.length_drop]; omega)]
  have hrz : (s.extract 1 s.size).size = s.size - 1 := by rw [← str_len, hrl, List.length_drop, hl]
  have hc := s[0].toNat_lt
  have hfe := fun x => @firstR_of s.data.toList x
  generalize hR : firstR s.data.toList = R
  generalize hx : firstN s.data.toList = x at *
  have hxR : ¬ (x.1.kind = 1 ∧ 2 ≤ x.1.num) → R = x := fun h => by rw [← hR]; exact hfe x rfl h
  have hxN : (x.1.kind = 1 ∧ 2 ≤ x.1.num) → R = (null, 0) := fun h => by rw [← hR]; unfold firstR; rw [hx, if_pos h]
  rw [hd, firstN_cons] at hx
  clear hfe hR
  generalize hn : s[0].toNat = z at *
  have HN := hide hn
  have hg : ((s[0].toNat : Nat) : Int) = z := by rw [HN.out]
  clear hd hn
  have hz : (z = 0) ∨ (z = 1) ∨ (z = 2) ∨ (z = 3) ∨ (((z : Int) == 0) = false ∧ ((z : Int) == 1) = false ∧ ((z : Int) == 2) = false ∧ ((z : Int) == 3) = false ∧ z ≠ 0 ∧ z ≠ 1 ∧ z ≠ 2 ∧ z ≠ 3) := by
    by_cases h0 : z = 0
    · exact .inl h0
    · by_cases h1 : z = 1
      · exact .inr (.inl h1)
      · by_cases h2 : z = 2
        · exact .inr (.inr (.inl h2))
        · by_cases h3 : z = 3
          · exact .inr (.inr (.inr (.inl h3)))
          · right; right; right; right
            simp [h0, h1, h2, h3]
            omega
  rcases hz with rfl | rfl | rfl | rfl | ⟨z0, z1, z2, z3, n0, n1, n2, n3⟩
  · rw [if_pos rfl] at hx
    subst hx
    obtain rfl := hxR (by simp [null])
    clear hxR hxN
    go_enter Try.func20, Try.ntmps20
    go_wp2_with fail
    exact end_val2 Try.results20 rfl rfl (vbox_new w null) rfl ⟨rfl, Bel.one _ _⟩
  · rw [if_neg (by omega), if_pos rfl] at hx
    by_cases h1 : 1 < s.size
    · have hd := drop_at (str_get h1)
      rw [hd] at hx
      simp only at hx
      have h1i : (1 : Int) < s.size := by omega
      generalize hbn : s[1].toNat = bz at *
      have HBN := hide hbn
      have hbg : ((s[1].toNat : Nat) : Int) = bz := by rw [HBN.out]
      clear hbn hd
      obtain rfl | rfl | hb2 : bz = 0 ∨ bz = 1 ∨ 2 ≤ bz := by omega
      all_goals first
        | (obtain rfl := hxR (by rw [← hx]; simp; done)
           subst hx
           have QB0 := hide (fun W => rbool_c false W)
           have QB1 := hide (fun W => rbool_c true W)
           simp only [if_true, Bool.false_eq_true, if_false] at QB0 QB1
           clear hxR hxN
           go_enter Try.func20, Try.ntmps20
           go_wp2_with fail
           first
             | refine (QB0.out _).mono ?_
             | refine (QB1.out _).mono ?_
           rintro e w3 ⟨rfl, hb3⟩
           have HX3 := hide (VBox.kept (vbox_new w null) hb3)
           have HB3 := hide (Bel.then (Bel.one w _) hb3)
           obtain ⟨k0, k1, k2, y0, y1, y2⟩ := HX3.out.all
           simp only [null] at k0 k1 k2
           unfold valAgg
           clear hb3 QB0 QB1
           go_wp2_with fail
           exact end_val2 Try.results20 rfl rfl (HX3.out.set3 1 _ _) rfl ⟨rfl, below_set3 HB3.out (Nat.le_refl _) _ _ _⟩)
        | (obtain rfl := hxN (by rw [← hx]; exact ⟨rfl, by show (2 : Int) ≤ (bz : Int); omega⟩)
           have hb2i : ¬ (bz : Int) < 2 := by omega
           clear hxR hxN hx
           go_enter Try.func20, Try.ntmps20
           go_wp2_with fail
           exact end_val2 Try.results20 rfl rfl (vbox_new w null) rfl ⟨rfl, Bel.one _ _⟩)
    · have hd : s.data.toList.drop 1 = [] := List.drop_of_length_le (by omega)
      rw [hd] at hx
      subst hx
      obtain rfl := hxR (by simp [null])
      have h1i : ¬ (1 : Int) < s.size := by omega
      clear hxR hxN hd
      go_enter Try.func20, Try.ntmps20
      go_wp2_with fail
      exact end_val2 Try.results20 rfl rfl (vbox_new w null) rfl ⟨rfl, Bel.one _ _⟩
  · rw [if_neg (by omega), if_neg (by omega), if_pos rfl] at hx
    by_cases h8 : 9 ≤ s.size
    · rw [if_pos (by rw [List.length_drop]; omega)] at hx
      obtain rfl := hxR (by rw [← hx]; simp)
      subst hx
      have QN := hide (fun W => rnumber_c (s.extract 1 s.size) W (by omega))
      rw [hrl] at QN
      have QM := hide (fun W => rnum_c (numK ((s.data.toList.drop 1).take 8)) W)
      generalize numK ((s.data.toList.drop 1).take 8) = n at *
      generalize s.extract 1 s.size = t at *
      have ht8 : (8 : Int) < s.size := by omega
      clear hrl hrz hxR hxN
      go_enter Try.func20, Try.ntmps20
      go_wp2_with fail
      refine (QN.out _).mono ?_
      rintro e w1 ⟨rfl, rfl⟩
      go_wp2_with fail
      refine (QM.out _).mono ?_
      rintro e w3 ⟨rfl, hb3⟩
      have HX3 := hide (VBox.kept (vbox_new w null) hb3)
      have HB3 := hide (Bel.then (Bel.one w _) hb3)
      obtain ⟨k0, k1, k2, y0, y1, y2⟩ := HX3.out.all
      simp only [null] at k0 k1 k2
      unfold valAgg
      clear hb3 QN QM
      go_wp2_with fail
      exact end_val2 Try.results20 rfl rfl (HX3.out.set3 2 _ _) rfl ⟨rfl, below_set3 HB3.out (Nat.le_refl _) _ _ _⟩
    · rw [if_neg (by rw [List.length_drop]; omega)] at hx
      subst hx
      obtain rfl := hxR (by simp [null])
      have ht8 : ¬ (8 : Int) < s.size := by omega
      clear hxR hxN
      go_enter Try.func20, Try.ntmps20
      go_wp2_with fail
      exact end_val2 Try.results20 rfl rfl (vbox_new w null) rfl ⟨rfl, Bel.one _ _⟩
  · rw [if_neg (by omega), if_neg (by omega), if_neg (by omega), if_pos rfl] at hx
    have hRx : R = x := hxR (by rw [← hx]; split <;> simp [null])
    subst hRx
    have hdl : (s.data.toList.drop 1).length = s.size - 1 := by rw [List.length_drop, hl]
    have HGI := hide (fun K (h1 : (s.data.toList.drop 1)[K]? = some 0) (h2 : ∀ b ∈ (s.data.toList.drop 1).take K, b ≠ 0) => show (⟨3, 0, strL ((s.data.toList.drop 1).take K)⟩, K + 2) = R by rw [← hx, index_at h1 h2, if_neg (by omega)]; rfl)
    have HNI := hide (fun (h : ∀ b ∈ s.data.toList.drop 1, b ≠ 0) => show (null, 0) = R by rw [← hx, if_pos (index_none _ h)])
    clear hx hxR hxN hrl hrz hsl
    go_enter Try.func20, Try.ntmps20
    go_wp2_with fail
    go_loop [4] (fun i => ∃ M : Nat, 1 ≤ M ∧ M ≤ s.size ∧ i = .int .i64 (M : Int) ∧ Hid (∀ b ∈ (s.data.toList.drop 1).take (M - 1), b ≠ 0)) (fun i => s.size - (intOf i).toNat)
    case atStart => exact ⟨1, by omega, by omega, rfl, by intro b hb; simp at hb⟩
    case round =>
      obtain ⟨M, hM1, hM, rfl, HA⟩ := hrel
      have hMi : (1 : Int) ≤ M := by omega
      by_cases hlt : M < s.size
      · have hget : (s.data.toList.drop 1)[M - 1]? = some s[M] := by rw [List.getElem?_drop, show 1 + (M - 1) = M by omega, str_get hlt]
        have hw : IntKind.i64.wrap ((M : Int) + 1) = (M : Int) + 1 := IntWalk.i64_in _ (by omega)
        by_cases hc0 : s[M] = 0
        · rw [hc0] at hget
          have hfin := HGI.out _ hget HA.out
          rw [show M - 1 + 2 = M + 1 by omega] at hfin
          have hcn : ((s[M].toNat : Int) == 0) = true := by rw [hc0]; rfl
          have hst : ∀ W, (Instr.slice 9 (.string s) (some (.int .i64 1)) (some (.int .i64 (M : Int))) none).run Try.prog W = .ok (.string (strL ((s.data.toList.drop 1).take (M - 1)))) W := fun W => by
            rw [run_slice_string (P := Try.prog) W 9 s .i64 .i64 1 (M : Int) Try.underlying9 (by omega) (by omega) (by omega)]
            have e : s.extract (1 : Int).toNat (M : Int).toNat = strL ((s.data.toList.drop 1).take (M - 1)) := by
              apply ByteArray.ext
              apply Array.ext'
              rw [ByteArray.data_extract, Array.toList_extract, List.extract_eq_take_drop]
              rfl
            rw [e]
          have QM := hide (fun W => rstr_c (strL ((s.data.toList.drop 1).take (M - 1))) W)
          generalize strL ((s.data.toList.drop 1).take (M - 1)) = u at *
          have HFIN := hide hfin
          clear hget hc0 HA HGI HNI hfin
          go_wp2_with fail
          refine (QM.out _).mono ?_
          rintro e w3 ⟨rfl, hb3⟩
          have HX3 := hide (VBox.kept (vbox_new w null) hb3)
          have HB3 := hide (Bel.then (Bel.one w _) hb3)
          obtain ⟨k0, k1, k2, y0, y1, y2⟩ := HX3.out.all
          simp only [null] at k0 k1 k2
          unfold valAgg
          clear hb3 QM hst
          go_wp2_with fail
          refine end_val2 Try.results20 rfl rfl (HX3.out.set3 3 _ _) rfl ?_
          rw [← HFIN.out]
          exact ⟨by go_num, below_set3 HB3.out (Nat.le_refl _) _ _ _⟩
        · have hcn : ((s[M].toNat : Int) == 0) = false := by
            rw [beq_eq_false_iff_ne]
            intro e
            exact hc0 (UInt8.toNat_inj.1 (by have : s[M].toNat = 0 := by omega
                                             rw [this]; rfl))
          have HA2 := hide (show ∀ b ∈ (s.data.toList.drop 1).take (M + 1 - 1), b ≠ 0 by
            rw [show M + 1 - 1 = (M - 1) + 1 by omega, take_at hget]
            intro b hb
            rcases List.mem_append.1 hb with hb | hb
            · exact HA.out b hb
            · rw [List.mem_singleton.1 hb]; exact hc0)
          clear hget hc0 HA
          go_wp2
          go_round
          case rel => exact ⟨M + 1, by omega, by omega, by go_num, HA2⟩
          case measure => simp [intOf]; omega
      · obtain rfl : M = s.size := by omega
        have hfin := HNI.out (by have := HA.out; rwa [List.take_of_length_le (by omega)] at this)
        have HFIN := hide hfin
        clear HA HGI HNI hfin
        go_wp2_with fail
        refine end_val2 Try.results20 rfl rfl (vbox_new w null) rfl ?_
        rw [← HFIN.out]
        exact ⟨rfl, Bel.one _ _⟩
  · rw [if_neg n0, if_neg n1, if_neg n2, if_neg n3] at hx
    subst hx
    obtain rfl := hxR (by simp [null])
    clear hxR hxN
    go_enter Try.func20, Try.ntmps20
    go_wp2_with fail
    exact end_val2 Try.results20 rfl rfl (vbox_new w null) rfl ⟨rfl, Bel.one _ _⟩
end Go.Proofs.Ytiealokabmjfjaa
