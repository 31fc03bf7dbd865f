/- The walk of the reference's Sort. -/
import Derived.Test.YtahdkfenpflahaaSpA
namespace Go.Proofs.Ytahdkfenpflahaa
set_option linter.unusedVariables false
open Go.ChangeShapes Go.WideShapes Go.ChangeAt Go.RowKit

theorem Bel.trans2 {w a b : World} (h : Below w.heap.size w a) (k : Below a.heap.size a b) : Below w.heap.size w b := Bel.then h k
/-- What stands in memory between two rounds. -/
def SortSt (w wr : World) (v : Value) (os : List HRow) : Prop := Below w.heap.size w wr ∧ OwnRs w.heap.size wr v os
theorem SortSt.kept {w wr w' : World} {v : Value} {os : List HRow} (h : SortSt w wr v os) (hb : Below wr.heap.size wr w') : SortSt w w' v os := ⟨Bel.then h.1 hb, h.2.kept hb⟩
/-- Rows that are the call's own, given back. -/
def GivesRs (w : World) (n : Nat) (S : List (List ValV)) (e : Ending) (w' : World) : Prop := ∃ X cx os, e = .returned (.slice X n cx) ∧ OwnRs w.heap.size w' (.slice X n cx) os ∧ sndL os = S ∧ Below w.heap.size w w'
theorem HsAt.headAt {w : World} {b off n c : Nat} {ps : List HRow} (h : HsAt w (some ⟨b, off, none⟩) n c ps) {i : Nat} {pA : Option Addr} {pn pc : Nat} {p2 : List ValV} (hp : ps[i]? = some (⟨pA, pn, pc⟩, p2)) : HeadAt w b (off + i) pA pn pc := by
  have hi : i < n := by have := (List.getElem?_eq_some_iff.1 hp).1; have := h.sl.len; omega
  obtain ⟨b', off', p, e, hp', h1⟩ := h.head hi
  rw [hp] at hp'
  injection hp' with hp'
  injection e with e
  injection e with e1 e2
  subst e1 e2 hp'
  exact h1
set_option maxRecDepth 100000 in
set_option maxHeartbeats 8000000 in
theorem rsort_c (A A3 : Option Addr) (n c n3 c3 : Nat) (ps : List HRow) (ks : List (Int × Bool)) (w : World) (h : HsAt w A n c ps) (hk : KeysAt w w.heap.size A3 n3 c3 ks) (hn : n ≤ 1048576) (hg : ∀ p ∈ ps, GoodR ks p.2) :
    Calls Try.prog 16 #[.slice A n c, .slice A3 n3 c3] w (GivesRs w n (sortR ks (sndL ps))) := by
  obtain ⟨i0, hi0, hz0, hz1, hz2⟩ := info_parts row_info
  have hl := h.sl.len
  have HP := hide h
  have HK := hide hk
  have HG := hide hg
  have HAll : Hid (∀ a ∈ sndL ps, AllK ks a) := fun a ha => by
    obtain ⟨p, hp, rfl⟩ := List.mem_map.1 ha
    exact (hg p hp).all
  have HLen : Hid ((sndL ps).length = n) := by show (ps.map Prod.snd).length = n; rw [List.length_map]; exact hl
  have HM0 := hide (show SortSt w (w.alloc (.cells #[] 23)) (.slice (some ⟨w.heap.size, 0, none⟩) 0 0) [] from ⟨Bel.one w _, ⟨World.ownsRow_lit (base := w.heap.size) (e := 23) (size := 1) w #[] 0 (Nat.le_refl _) (by simp [maxLen]) rfl, by simp⟩⟩)
  have HI0 : Hid (InsK ks (sndL ps) 0 (sndL [])) := ⟨List.Pairwise.nil, List.Perm.refl _⟩
  clear h hk hg
  go_enter Try.func16, Try.ntmps16
  go_upto_region 2 with (fail)
  generalize w.alloc (.cells #[] 23) = w0 at *
  generalize w.heap.size = ob at HM0 ⊢
  go_wp2_with fail
  go_loopw [5, 6] (fun ov iv wr => ∃ (i : Nat) (X : Option Addr) (cx : Nat) (os : List HRow), i ≤ n ∧ iv = .int .i64 i ∧ ov = .slice X i cx ∧ os.length = i ∧ Hid (SortSt w wr (.slice X i cx) os) ∧ Hid (InsK ks (sndL ps) i (sndL os))) (fun _ iv _ => n - (intOf iv).toNat)
  case atStart => exact ⟨0, _, 0, [], Nat.zero_le _, rfl, rfl, rfl, HM0, HI0⟩
  case round =>
    clear HM0 HI0
    obtain ⟨i, X, cx, os, hin, rfl, rfl, hos, HM, HI⟩ := hrel
    by_cases hlt : i < n
    · have hlti : (i : Int) < n := by omega
      have hwi : IntKind.i64.wrap ((i : Int) + 1) = (i : Int) + 1 := IntWalk.i64_in _ (by omega)
      obtain ⟨b, off, p, rfl, hpi, _⟩ := HP.out.head hlt
      have hgp := HG.out p (List.mem_of_getElem? hpi)
      have HPr := hide (HP.out.each p (List.mem_of_getElem? hpi))
      have hsi : (sndL ps)[i]? = some p.2 := by show (ps.map Prod.snd)[i]? = _; rw [List.getElem?_map, hpi]; rfl
      obtain ⟨⟨pA, pn, pc⟩, p2⟩ := p
      simp only at hgp HPr hsi
      have hpl : pn ≤ 1048576 := by have := HPr.out.len; have := hgp.len; omega
      have hps := hgp.strs
      have hpall := hgp.all
      have HIN := hide (fun (k : Nat) h1 h2 => HI.out.next (k := k) hsi HAll.out h1 h2)
      have HPs := hide hps
      clear hgp hsi hps hpall
      go_wp2_with fail
      go_loopw [7] (fun kv wr' => ∃ k : Nat, k ≤ i ∧ kv = .int .i64 k ∧ Hid (SortSt w wr' (.slice X i cx) os) ∧ Hid (∀ (j : Nat) a, j < k → (sndL os)[j]? = some a → befB p2 a ks = false)) (fun kv _ => i - (intOf kv).toNat)
      case atStart => exact ⟨0, Nat.zero_le _, rfl, HM, fun j a hj => absurd hj (by omega)⟩
      case round =>
        clear HM
        obtain ⟨k, hki, rfl, HM, HJ⟩ := hrel
        by_cases hlt2 : k < i
        · have hlti2 : (k : Int) < i := by omega
          have hwk : IntKind.i64.wrap ((k : Int) + 1) = (k : Int) + 1 := IntWalk.i64_in _ (by omega)
          obtain ⟨b2, off2, q, rfl, hq, Hb⟩ := HM.out.2.hs.head hlt2
          have Ha := (HP.out.kept HM.out.1).headAt hpi
          have hqr := HM.out.2.hs.each q (List.mem_of_getElem? hq)
          have hsq : (sndL os)[k]? = some q.2 := by show (os.map Prod.snd)[k]? = _; rw [List.getElem?_map, hq]; rfl
          have hqs : StrsOk q.2 := by
            have hm := HI.out.perm.mem_iff.1 (List.mem_of_getElem? hsq)
            obtain ⟨p', hp', e⟩ := List.mem_map.1 (List.mem_of_mem_take hm)
            rw [← e]
            exact (HG.out p' hp').strs
          have Q := hide (fun (W : World) (hW : Below wr.heap.size wr W) => rbefore_c pA q.1.A A3 pn pc q.1.n q.1.c n3 c3 p2 q.2 ks W (HPr.out.kept (Bel.trans2 HM.out.1 hW)) (hqr.kept hW) (HK.out.kept (Bel.trans2 HM.out.1 hW)) HPs.out hqs)
          have HT : Hid (befB p2 q.2 ks = true → InsK ks (sndL ps) (i + 1) ((sndL os).take k ++ p2 :: (sndL os).drop k)) := fun hx => HIN.out k HJ.out (fun a ha => by rw [hsq] at ha; injection ha with ha; subst ha; exact hx)
          have HF : Hid (befB p2 q.2 ks = false → ∀ (j : Nat) a, j < k + 1 → (sndL os)[j]? = some a → befB p2 a ks = false) := fun hx j a hj ha => by
            by_cases hjk : j = k
            · subst hjk; rw [hsq] at ha; injection ha with ha; subst ha; exact hx
            · exact HJ.out j a (by omega) ha
          generalize befB p2 q.2 ks = x at *
          generalize q.1.A = qA at *
          generalize q.1.n = qn at *
          generalize q.1.c = qc at *
          replace Ha := hide Ha
          replace Hb := hide Hb
          clear hqr hsq hqs hq
          go_upto_region 6 with (fail)
          refine wp_region_held_drew (S := (fun w' => HeadAt w' b (off + i) pA pn pc ∧ HeadAt w' b2 (off2 + k) qA qn qc ∧ Below wr.heap.size wr w')) (by kernel_rfl) (⟨Ha.out.kept (Below.refl _ _).drew, Hb.out.kept (Below.refl _ _).drew, (Below.refl wr.heap.size wr).drew⟩) (fun hHeld => ?_)
          first | (refine wpAnyH_take (i := 0) (v := ?_) nth0 (by kernel_rfl) (by kernel_rfl) (by kernel_rfl) (fun _ _ _ h => h) (Or.inl ⟨by rfl, ?_⟩) hHeld ?_; rotate_left; focus (intro wS hSw; (obtain ⟨_, a_0⟩ := hSw.1; obtain ⟨_, b_0⟩ := hSw.2.1); go_simp; try with_reducible rfl; done)) | (refine wpAnyH_take (i := 0) (v := undef) nth0 (by kernel_rfl) (by kernel_rfl) (by kernel_rfl) (fun _ _ _ h => h) (Or.inr ⟨by rfl, rfl⟩) hHeld ?_)
          (try simp only [Act.put]); (try simp only [List.setIfInBounds_toArray]); (try simp only [List.set_cons_succ]); (try simp only [List.set_cons_zero])
          first | (refine wpAnyH_take (i := 1) (v := ?_) nth1 (by kernel_rfl) (by kernel_rfl) (by kernel_rfl) (fun _ _ _ h => h) (Or.inl ⟨by rfl, ?_⟩) hHeld ?_; rotate_left; focus (intro wS hSw; (obtain ⟨_, a_0⟩ := hSw.1; obtain ⟨_, b_0⟩ := hSw.2.1); go_simp; try with_reducible rfl; done)) | (refine wpAnyH_take (i := 1) (v := undef) nth1 (by kernel_rfl) (by kernel_rfl) (by kernel_rfl) (fun _ _ _ h => h) (Or.inr ⟨by rfl, rfl⟩) hHeld ?_)
          (try simp only [Act.put]); (try simp only [List.setIfInBounds_toArray]); (try simp only [List.set_cons_succ]); (try simp only [List.set_cons_zero])
          first | (refine wpAnyH_take (i := 2) (v := ?_) nth2 (by kernel_rfl) (by kernel_rfl) (by kernel_rfl) (fun _ _ _ h => h) (Or.inl ⟨by rfl, ?_⟩) hHeld ?_; rotate_left; focus (intro wS hSw; (obtain ⟨_, a_0⟩ := hSw.1; obtain ⟨_, b_0⟩ := hSw.2.1); go_simp; try with_reducible rfl; done)) | (refine wpAnyH_take (i := 2) (v := undef) nth2 (by kernel_rfl) (by kernel_rfl) (by kernel_rfl) (fun _ _ _ h => h) (Or.inr ⟨by rfl, rfl⟩) hHeld ?_)
          (try simp only [Act.put]); (try simp only [List.setIfInBounds_toArray]); (try simp only [List.set_cons_succ]); (try simp only [List.set_cons_zero])
          first | (refine wpAnyH_take (i := 3) (v := ?_) nth3 (by kernel_rfl) (by kernel_rfl) (by kernel_rfl) (fun _ _ _ h => h) (Or.inl ⟨by rfl, ?_⟩) hHeld ?_; rotate_left; focus (intro wS hSw; (obtain ⟨_, a_0⟩ := hSw.1; obtain ⟨_, b_0⟩ := hSw.2.1); go_simp; try with_reducible rfl; done)) | (refine wpAnyH_take (i := 3) (v := undef) nth3 (by kernel_rfl) (by kernel_rfl) (by kernel_rfl) (fun _ _ _ h => h) (Or.inr ⟨by rfl, rfl⟩) hHeld ?_)
          (try simp only [Act.put]); (try simp only [List.setIfInBounds_toArray]); (try simp only [List.set_cons_succ]); (try simp only [List.set_cons_zero])
          first | (refine wpAnyH_take (i := 4) (v := ?_) nth4 (by kernel_rfl) (by kernel_rfl) (by kernel_rfl) (fun _ _ _ h => h) (Or.inl ⟨by rfl, ?_⟩) hHeld ?_; rotate_left; focus (intro wS hSw; (obtain ⟨_, a_0⟩ := hSw.1; obtain ⟨_, b_0⟩ := hSw.2.1); go_simp; try with_reducible rfl; done)) | (refine wpAnyH_take (i := 4) (v := undef) nth4 (by kernel_rfl) (by kernel_rfl) (by kernel_rfl) (fun _ _ _ h => h) (Or.inr ⟨by rfl, rfl⟩) hHeld ?_)
          (try simp only [Act.put]); (try simp only [List.setIfInBounds_toArray]); (try simp only [List.set_cons_succ]); (try simp only [List.set_cons_zero])
          first | (refine wpAnyH_take (i := 5) (v := ?_) nth5 (by kernel_rfl) (by kernel_rfl) (by kernel_rfl) (fun _ _ _ h => h) (Or.inl ⟨by rfl, ?_⟩) hHeld ?_; rotate_left; focus (intro wS hSw; (obtain ⟨_, a_0⟩ := hSw.1; obtain ⟨_, b_0⟩ := hSw.2.1); go_simp; try with_reducible rfl; done)) | (refine wpAnyH_take (i := 5) (v := undef) nth5 (by kernel_rfl) (by kernel_rfl) (by kernel_rfl) (fun _ _ _ h => h) (Or.inr ⟨by rfl, rfl⟩) hHeld ?_)
          (try simp only [Act.put]); (try simp only [List.setIfInBounds_toArray]); (try simp only [List.set_cons_succ]); (try simp only [List.set_cons_zero])
          first | (refine wpAnyH_take (i := 6) (v := ?_) nth6 (by kernel_rfl) (by kernel_rfl) (by kernel_rfl) (fun _ _ _ h => h) (Or.inl ⟨by rfl, ?_⟩) hHeld ?_; rotate_left; focus (intro wS hSw; (obtain ⟨_, a_0⟩ := hSw.1; obtain ⟨_, b_0⟩ := hSw.2.1); go_simp; try with_reducible rfl; done)) | (refine wpAnyH_take (i := 6) (v := undef) nth6 (by kernel_rfl) (by kernel_rfl) (by kernel_rfl) (fun _ _ _ h => h) (Or.inr ⟨by rfl, rfl⟩) hHeld ?_)
          (try simp only [Act.put]); (try simp only [List.setIfInBounds_toArray]); (try simp only [List.set_cons_succ]); (try simp only [List.set_cons_zero])
          first | (refine wpAnyH_take (i := 7) (v := ?_) nth7 (by kernel_rfl) (by kernel_rfl) (by kernel_rfl) (fun _ _ _ h => h) (Or.inl ⟨by rfl, ?_⟩) hHeld ?_; rotate_left; focus (intro wS hSw; (obtain ⟨_, a_0⟩ := hSw.1; obtain ⟨_, b_0⟩ := hSw.2.1); go_simp; try with_reducible rfl; done)) | (refine wpAnyH_take (i := 7) (v := undef) nth7 (by kernel_rfl) (by kernel_rfl) (by kernel_rfl) (fun _ _ _ h => h) (Or.inr ⟨by rfl, rfl⟩) hHeld ?_)
          (try simp only [Act.put]); (try simp only [List.setIfInBounds_toArray]); (try simp only [List.set_cons_succ]); (try simp only [List.set_cons_zero])
          first | (refine wpAnyH_take (i := 8) (v := ?_) nth8 (by kernel_rfl) (by kernel_rfl) (by kernel_rfl) (fun _ _ _ h => h) (Or.inl ⟨by rfl, ?_⟩) hHeld ?_; rotate_left; focus (intro wS hSw; (obtain ⟨_, a_0⟩ := hSw.1; obtain ⟨_, b_0⟩ := hSw.2.1); go_simp; try with_reducible rfl; done)) | (refine wpAnyH_take (i := 8) (v := undef) nth8 (by kernel_rfl) (by kernel_rfl) (by kernel_rfl) (fun _ _ _ h => h) (Or.inr ⟨by rfl, rfl⟩) hHeld ?_)
          (try simp only [Act.put]); (try simp only [List.setIfInBounds_toArray]); (try simp only [List.set_cons_succ]); (try simp only [List.set_cons_zero])
          first | (refine wpAnyH_take (i := 9) (v := ?_) nth9 (by kernel_rfl) (by kernel_rfl) (by kernel_rfl) (fun _ _ _ h => h) (Or.inl ⟨by rfl, ?_⟩) hHeld ?_; rotate_left; focus (intro wS hSw; (obtain ⟨_, a_0⟩ := hSw.1; obtain ⟨_, b_0⟩ := hSw.2.1); go_simp; try with_reducible rfl; done)) | (refine wpAnyH_take (i := 9) (v := undef) nth9 (by kernel_rfl) (by kernel_rfl) (by kernel_rfl) (fun _ _ _ h => h) (Or.inr ⟨by rfl, rfl⟩) hHeld ?_)
          (try simp only [Act.put]); (try simp only [List.setIfInBounds_toArray]); (try simp only [List.set_cons_succ]); (try simp only [List.set_cons_zero])
          first | (refine wpAnyH_take (i := 10) (v := ?_) nth10 (by kernel_rfl) (by kernel_rfl) (by kernel_rfl) (fun _ _ _ h => h) (Or.inl ⟨by rfl, ?_⟩) hHeld ?_; rotate_left; focus (intro wS hSw; (obtain ⟨_, a_0⟩ := hSw.1; obtain ⟨_, b_0⟩ := hSw.2.1); go_simp; try with_reducible rfl; done)) | (refine wpAnyH_take (i := 10) (v := undef) nth10 (by kernel_rfl) (by kernel_rfl) (by kernel_rfl) (fun _ _ _ h => h) (Or.inr ⟨by rfl, rfl⟩) hHeld ?_)
          (try simp only [Act.put]); (try simp only [List.setIfInBounds_toArray]); (try simp only [List.set_cons_succ]); (try simp only [List.set_cons_zero])
          first | (refine wpAnyH_take (i := 11) (v := ?_) nth11 (by kernel_rfl) (by kernel_rfl) (by kernel_rfl) (fun _ _ _ h => h) (Or.inl ⟨by rfl, ?_⟩) hHeld ?_; rotate_left; focus (intro wS hSw; (obtain ⟨_, a_0⟩ := hSw.1; obtain ⟨_, b_0⟩ := hSw.2.1); go_simp; try with_reducible rfl; done)) | (refine wpAnyH_take (i := 11) (v := undef) nth11 (by kernel_rfl) (by kernel_rfl) (by kernel_rfl) (fun _ _ _ h => h) (Or.inr ⟨by rfl, rfl⟩) hHeld ?_)
          (try simp only [Act.put]); (try simp only [List.setIfInBounds_toArray]); (try simp only [List.set_cons_succ]); (try simp only [List.set_cons_zero])
          first | (refine wpAnyH_take (i := 12) (v := ?_) nth12 (by kernel_rfl) (by kernel_rfl) (by kernel_rfl) (fun _ _ _ h => h) (Or.inl ⟨by rfl, ?_⟩) hHeld ?_; rotate_left; focus (intro wS hSw; (obtain ⟨_, a_0⟩ := hSw.1; obtain ⟨_, b_0⟩ := hSw.2.1); go_simp; try with_reducible rfl; done)) | (refine wpAnyH_take (i := 12) (v := undef) nth12 (by kernel_rfl) (by kernel_rfl) (by kernel_rfl) (fun _ _ _ h => h) (Or.inr ⟨by rfl, rfl⟩) hHeld ?_)
          (try simp only [Act.put]); (try simp only [List.setIfInBounds_toArray]); (try simp only [List.set_cons_succ]); (try simp only [List.set_cons_zero])
          first | (refine wpAnyH_take (i := 13) (v := ?_) nth13 (by kernel_rfl) (by kernel_rfl) (by kernel_rfl) (fun _ _ _ h => h) (Or.inl ⟨by rfl, ?_⟩) hHeld ?_; rotate_left; focus (intro wS hSw; (obtain ⟨_, a_0⟩ := hSw.1; obtain ⟨_, b_0⟩ := hSw.2.1); go_simp; try with_reducible rfl; done)) | (refine wpAnyH_take (i := 13) (v := undef) nth13 (by kernel_rfl) (by kernel_rfl) (by kernel_rfl) (fun _ _ _ h => h) (Or.inr ⟨by rfl, rfl⟩) hHeld ?_)
          (try simp only [Act.put]); (try simp only [List.setIfInBounds_toArray]); (try simp only [List.set_cons_succ]); (try simp only [List.set_cons_zero])
          refine wpAnyH_ready (rs := [14]) (by kernel_rfl) (by simp) ?_
          refine AllReadyH.cons nth14 (fun K hK => ?_) AllReadyH.nil
          go_simp
          (go_at_call 10; refine (Q.out _ hHeld.2.2).mono ?_; rintro e w' ⟨rfl, hb⟩)
          refine hK.out _ _ (⟨hHeld.1.kept hb, hHeld.2.1.kept hb, Bel.then hHeld.2.2 hb⟩) (fun hHeld => ?_)
          clear hK K
          (try simp only [Act.put]); (try simp only [List.setIfInBounds_toArray]); (try simp only [List.set_cons_succ]); (try simp only [List.set_cons_zero])
          first | (refine wpAnyH_take (i := 15) (v := ?_) nth15 (by kernel_rfl) (by kernel_rfl) (by kernel_rfl) (fun _ _ _ h => h) (Or.inl ⟨by rfl, ?_⟩) hHeld ?_; rotate_left; focus (intro wS hSw; (obtain ⟨_, a_0⟩ := hSw.1; obtain ⟨_, b_0⟩ := hSw.2.1); go_simp; try with_reducible rfl; done)) | (refine wpAnyH_take (i := 15) (v := undef) nth15 (by kernel_rfl) (by kernel_rfl) (by kernel_rfl) (fun _ _ _ h => h) (Or.inr ⟨by rfl, rfl⟩) hHeld ?_)
          (try simp only [Act.put]); (try simp only [List.setIfInBounds_toArray]); (try simp only [List.set_cons_succ]); (try simp only [List.set_cons_zero])
          first | (refine wpAnyH_take (i := 16) (v := ?_) nth16 (by kernel_rfl) (by kernel_rfl) (by kernel_rfl) (fun _ _ _ h => h) (Or.inl ⟨by rfl, ?_⟩) hHeld ?_; rotate_left; focus (intro wS hSw; (obtain ⟨_, a_0⟩ := hSw.1; obtain ⟨_, b_0⟩ := hSw.2.1); go_simp; try with_reducible rfl; done)) | (refine wpAnyH_take (i := 16) (v := undef) nth16 (by kernel_rfl) (by kernel_rfl) (by kernel_rfl) (fun _ _ _ h => h) (Or.inr ⟨by rfl, rfl⟩) hHeld ?_)
          (try simp only [Act.put]); (try simp only [List.setIfInBounds_toArray]); (try simp only [List.set_cons_succ]); (try simp only [List.set_cons_zero])
          refine wpAnyH_done (by kernel_rfl) ?_ _
          replace HM := hide (HM.out.kept hHeld.2.2)
          clear hHeld Ha Hb Q
          cases x with
          | true =>
            replace HI := hide (HT.out rfl)
            clear HT HF HJ HIN
            unfold sndL at HI
            rw [← List.map_take, ← List.map_drop] at HI
            have hsA := HM.out.2.hs
            have hcx := hsA.sl.cap
            have hfr := fun W => front_run (A := (some ⟨b2, off2, none⟩)) (n := i) (c := cx) (k := k) (by omega) W
            have hbk := fun W => back_run (A := (some ⟨b2, off2, none⟩)) (n := i) (c := cx) (j := k) hki W
            have HF := hide (hs_front hsA hki)
            have HD := hide (hs_back hsA hki)
            have HB := hide (Below.refl w'.heap.size w')
            have HS := hide (fun (W : World) (hW : Below w'.heap.size w' W) => HM.out.2.kept hW)
            have HW := hide HM.out.1
            have hl1 : (os.take k).length = k := by rw [List.length_take]; omega
            have hl2 : (os.drop k).length = i - k := by rw [List.length_drop]; omega
            have HMm : Hid (∀ p ∈ os.take k ++ os.drop k, p ∈ os) := fun p hp => by rw [List.take_append_drop] at hp; exact hp
            have HBase := hide (Nat.le_trans (Below.refl w.heap.size w).size HM.out.1.size)
            generalize os.take k = L1 at *
            generalize os.drop k = L2 at *
            generalize fstA cx (some ⟨b2, off2, none⟩) = X1 at *
            generalize sndA cx k (some ⟨b2, off2, none⟩) = X2 at *
            obtain ⟨m2, hm2⟩ : ∃ m2, i - k = m2 := ⟨_, rfl⟩
            rw [hm2] at hbk HD hl2
            generalize cx - k = cx2 at *
            clear hsA HM
            have HO0 := hide (World.ownsRow_lit (base := w'.heap.size) (e := 23) (size := 1) w' #[] 0 (Nat.le_refl _) (by simp [maxLen]) rfl)
            have HB0 := hide (Bel.one w' (.cells #[] 23))
            go_upto_region 9 with (at_builtin; go_loud (refine wpList_app rfl (.tmp 35) (.tmp 38) 29 rfl w'.heap.size 23 i0 _ 1 24 Try.underlying29 hi0 hz0 hz1 hz2 rfl (by omega) _ 0 [] rfl HO0.out _ X1 k cx (L1.map hdV) rfl (by rw [List.length_map, hl1, Nat.mul_one]) (by have := (HF.out.kept HB0.out).sl.recs.2; rw [hdC_flat] at this; exact this) (hd_one _) (by unfold maxLen; omega) (by omega) HB0.out.size HF.out.sl.nil ?_); intro v1 w1 hown hgr _; have HN := hide (show OwnH w'.heap.size w1 v1 L1 from by unfold OwnH; rw [hl1]; rw [Nat.zero_add, List.nil_append] at hown; exact hown); have HB1 := hide (own_grown HB0.out hgr (by intro q hq; have hk2 : w'.heap.size = q := Option.some.inj hq; omega)); clear hown hgr HO0 HB0 HF)
            have HH := hide ((HP.out.kept (Bel.trans2 HW.out HB1.out)).headAt hpi)
            obtain ⟨hh0, hh1⟩ := HH.out
            have QC := hide (CopyO_c pA pn pc p2 w1 (HPr.out.kept (Bel.trans2 HW.out HB1.out)) hpl)
            clear HH
            go_wp2_with fail
            refine QC.out.mono ?_
            rintro e w2 ⟨X3, c3', rfl, hX, hb⟩
            replace HN := hide (HN.out.kept hb)
            have HX := hide (hX.lower HB1.out.size)
            have HB2 := hide (Bel.then HB1.out hb)
            clear hX hb QC HB1 hh0 hh1
            go_upto_region 10 with (at_builtin; refine wpList_app rfl (.tmp 40) (.tmp 46) 29 rfl w'.heap.size 23 i0 _ 1 24 Try.underlying29 hi0 hz0 hz1 hz2 rfl (by omega) v1 L1.length (L1.map hdV) rfl (HN.out.kept (Bel.one w2 (.cells #[.slice X3 pn c3'] 23))) _ (some ⟨w2.heap.size, 0, none⟩) 1 1 [.slice X3 pn c3'] rfl rfl (cells_lit w2 #[.slice X3 pn c3'] 23) (by intro u hu; rw [List.mem_singleton.1 hu]; rfl) (by unfold maxLen; omega) (by omega) (by have := HB2.out.size; simp only [World.size_alloc]; omega) (by intro h; cases h) ?_; intro v2 w3 hown hgr _; have HN3 := hide (show OwnH w'.heap.size w3 v2 (L1 ++ [(⟨X3, pn, c3'⟩, p2)]) from by unfold OwnH; rw [List.length_append, List.map_append]; exact hown); have HX3 := hide ((HX.out.kept (Bel.one w2 (.cells #[.slice X3 pn c3'] 23))).grown hgr (HN.out.kept (Bel.one w2 (.cells #[.slice X3 pn c3'] 23)))); have HB3 := hide (own_grown (Bel.alloc HB2.out (.cells #[.slice X3 pn c3'] 23)) hgr (HN.out.kept (Bel.one w2 (.cells #[.slice X3 pn c3'] 23))).blk); clear hown hgr HN HX HB2)
            obtain ⟨L3, hL3⟩ : ∃ L3 : List HRow, L1 ++ [((⟨X3, pn, c3'⟩, p2) : HRow)] = L3 := ⟨_, rfl⟩
            have hl3 : L3.length = k + 1 := by rw [← hL3, List.length_append, hl1]; rfl
            rw [hL3] at HN3
            have HL3 := hide hL3
            clear hL3
            go_wp2_with (at_builtin; go_loud (refine wpList_app rfl (.tmp 48) (.tmp 51) 29 rfl w'.heap.size 23 i0 _ 1 24 Try.underlying29 hi0 hz0 hz1 hz2 rfl (by omega) v2 L3.length (L3.map hdV) rfl HN3.out _ X2 m2 cx2 (L2.map hdV) rfl (by rw [List.length_map, hl2, Nat.mul_one]) (by have := (HD.out.kept HB3.out).sl.recs.2; rw [hdC_flat] at this; exact this) (hd_one _) (by unfold maxLen; omega) (by omega) HB3.out.size HD.out.sl.nil ?_); intro v3 w4 hown hgr _; have HN4 := hide (show OwnH w'.heap.size w4 v3 (L3 ++ L2) from by unfold OwnH; rw [List.length_append, List.map_append, hl2]; exact hown); have HX4 := hide (HX3.out.grown hgr HN3.out); have HB4 := hide (own_grown HB3.out hgr HN3.out.blk); clear hown hgr HN3 HX3 HB3)
            have HR4 := hide (show OwnRs w.heap.size w4 v3 (L3 ++ L2) from ⟨own_base HN4.out HBase.out, fun q hq => by
              rw [← HL3.out] at hq
              rcases List.mem_append.1 hq with hq | hq
              · rcases List.mem_append.1 hq with hq | hq
                · exact (HS.out _ HB4.out).rows q (HMm.out q (List.mem_append.2 (.inl hq)))
                · rw [List.mem_singleton.1 hq]; exact HX4.out.lower HBase.out
              · exact (HS.out _ HB4.out).rows q (HMm.out q (List.mem_append.2 (.inr hq)))⟩)
            have hlen : (L3 ++ L2).length = i + 1 := by rw [List.length_append, hl3, hl2]; omega
            obtain ⟨X4, c4, rfl, _⟩ := own_form HN4.out
            rw [hlen] at HR4
            have HW4 := hide (Bel.trans2 HW.out HB4.out)
            clear HN4 HX4 HB4 HS HW HD HMm
            go_roundw
            case rel => exact ⟨i + 1, X4, c4, _, by omega, by go_num, by rw [hlen], hlen, ⟨HW4.out, HR4.out⟩, by have := HI.out; unfold sndL; rw [← HL3.out, List.map_append, List.map_append, List.append_assoc]; exact this⟩
            case measure => simp [intOf]; omega
          | false =>
            have HJ2 := hide (HF.out rfl)
            clear HT HF
            go_wp2_with fail
            go_roundw
            case rel => exact ⟨k + 1, by omega, by go_num, HM, HJ2⟩
            case measure => simp [intOf]; omega
        · have hlti2 : ¬ (k : Int) < i := by omega
          replace HI := hide (HIN.out k HJ.out (fun a ha => by have := (List.getElem?_eq_some_iff.1 ha).1; unfold sndL at this; rw [List.length_map] at this; omega))
          have f1 : decide ((k : Int) < (i : Int)) = false := decide_eq_false hlti2
          clear HJ HIN
          unfold sndL at HI
          rw [← List.map_take, ← List.map_drop] at HI
          go_upto_region 6 with (fail)
          go_quiet (fail)
          replace HM := hide (HM.out.kept (Bel.drewN (Below.refl wr.heap.size wr) nq))
          generalize wr.drewN nq = wr2 at *
          have hsA := HM.out.2.hs
          have hcx := hsA.sl.cap
          have hfr := fun W => front_run (A := X) (n := i) (c := cx) (k := k) (by omega) W
          have hbk := fun W => back_run (A := X) (n := i) (c := cx) (j := k) hki W
          have HF := hide (hs_front hsA hki)
          have HD := hide (hs_back hsA hki)
          have HB := hide (Below.refl wr2.heap.size wr2)
          have HS := hide (fun (W : World) (hW : Below wr2.heap.size wr2 W) => HM.out.2.kept hW)
          have HW := hide HM.out.1
          have hl1 : (os.take k).length = k := by rw [List.length_take]; omega
          have hl2 : (os.drop k).length = i - k := by rw [List.length_drop]; omega
          have HMm : Hid (∀ p ∈ os.take k ++ os.drop k, p ∈ os) := fun p hp => by rw [List.take_append_drop] at hp; exact hp
          have HBase := hide (Nat.le_trans (Below.refl w.heap.size w).size HM.out.1.size)
          generalize os.take k = L1 at *
          generalize os.drop k = L2 at *
          generalize fstA cx X = X1 at *
          generalize sndA cx k X = X2 at *
          obtain ⟨m2, hm2⟩ : ∃ m2, i - k = m2 := ⟨_, rfl⟩
          rw [hm2] at hbk HD hl2
          generalize cx - k = cx2 at *
          clear hsA HM
          have HO0 := hide (World.ownsRow_lit (base := wr2.heap.size) (e := 23) (size := 1) wr2 #[] 0 (Nat.le_refl _) (by simp [maxLen]) rfl)
          have HB0 := hide (Bel.one wr2 (.cells #[] 23))
          go_upto_region 9 with (at_builtin; go_loud (refine wpList_app rfl (.tmp 35) (.tmp 38) 29 rfl wr2.heap.size 23 i0 _ 1 24 Try.underlying29 hi0 hz0 hz1 hz2 rfl (by omega) _ 0 [] rfl HO0.out _ X1 k cx (L1.map hdV) rfl (by rw [List.length_map, hl1, Nat.mul_one]) (by have := (HF.out.kept HB0.out).sl.recs.2; rw [hdC_flat] at this; exact this) (hd_one _) (by unfold maxLen; omega) (by omega) HB0.out.size HF.out.sl.nil ?_); intro v1 w1 hown hgr _; have HN := hide (show OwnH wr2.heap.size w1 v1 L1 from by unfold OwnH; rw [hl1]; rw [Nat.zero_add, List.nil_append] at hown; exact hown); have HB1 := hide (own_grown HB0.out hgr (by intro q hq; have hk2 : wr2.heap.size = q := Option.some.inj hq; omega)); clear hown hgr HO0 HB0 HF)
          have HH := hide ((HP.out.kept (Bel.trans2 HW.out HB1.out)).headAt hpi)
          obtain ⟨hh0, hh1⟩ := HH.out
          have QC := hide (CopyO_c pA pn pc p2 w1 (HPr.out.kept (Bel.trans2 HW.out HB1.out)) hpl)
          clear HH
          go_wp2_with fail
          refine QC.out.mono ?_
          rintro e w2 ⟨X3, c3', rfl, hX, hb⟩
          replace HN := hide (HN.out.kept hb)
          have HX := hide (hX.lower HB1.out.size)
          have HB2 := hide (Bel.then HB1.out hb)
          clear hX hb QC HB1 hh0 hh1
          go_upto_region 10 with (at_builtin; refine wpList_app rfl (.tmp 40) (.tmp 46) 29 rfl wr2.heap.size 23 i0 _ 1 24 Try.underlying29 hi0 hz0 hz1 hz2 rfl (by omega) v1 L1.length (L1.map hdV) rfl (HN.out.kept (Bel.one w2 (.cells #[.slice X3 pn c3'] 23))) _ (some ⟨w2.heap.size, 0, none⟩) 1 1 [.slice X3 pn c3'] rfl rfl (cells_lit w2 #[.slice X3 pn c3'] 23) (by intro u hu; rw [List.mem_singleton.1 hu]; rfl) (by unfold maxLen; omega) (by omega) (by have := HB2.out.size; simp only [World.size_alloc]; omega) (by intro h; cases h) ?_; intro v2 w3 hown hgr _; have HN3 := hide (show OwnH wr2.heap.size w3 v2 (L1 ++ [(⟨X3, pn, c3'⟩, p2)]) from by unfold OwnH; rw [List.length_append, List.map_append]; exact hown); have HX3 := hide ((HX.out.kept (Bel.one w2 (.cells #[.slice X3 pn c3'] 23))).grown hgr (HN.out.kept (Bel.one w2 (.cells #[.slice X3 pn c3'] 23)))); have HB3 := hide (own_grown (Bel.alloc HB2.out (.cells #[.slice X3 pn c3'] 23)) hgr (HN.out.kept (Bel.one w2 (.cells #[.slice X3 pn c3'] 23))).blk); clear hown hgr HN HX HB2)
          obtain ⟨L3, hL3⟩ : ∃ L3 : List HRow, L1 ++ [((⟨X3, pn, c3'⟩, p2) : HRow)] = L3 := ⟨_, rfl⟩
          have hl3 : L3.length = k + 1 := by rw [← hL3, List.length_append, hl1]; rfl
          rw [hL3] at HN3
          have HL3 := hide hL3
          clear hL3
          go_wp2_with (at_builtin; go_loud (refine wpList_app rfl (.tmp 48) (.tmp 51) 29 rfl wr2.heap.size 23 i0 _ 1 24 Try.underlying29 hi0 hz0 hz1 hz2 rfl (by omega) v2 L3.length (L3.map hdV) rfl HN3.out _ X2 m2 cx2 (L2.map hdV) rfl (by rw [List.length_map, hl2, Nat.mul_one]) (by have := (HD.out.kept HB3.out).sl.recs.2; rw [hdC_flat] at this; exact this) (hd_one _) (by unfold maxLen; omega) (by omega) HB3.out.size HD.out.sl.nil ?_); intro v3 w4 hown hgr _; have HN4 := hide (show OwnH wr2.heap.size w4 v3 (L3 ++ L2) from by unfold OwnH; rw [List.length_append, List.map_append, hl2]; exact hown); have HX4 := hide (HX3.out.grown hgr HN3.out); have HB4 := hide (own_grown HB3.out hgr HN3.out.blk); clear hown hgr HN3 HX3 HB3)
          have HR4 := hide (show OwnRs w.heap.size w4 v3 (L3 ++ L2) from ⟨own_base HN4.out HBase.out, fun q hq => by
            rw [← HL3.out] at hq
            rcases List.mem_append.1 hq with hq | hq
            · rcases List.mem_append.1 hq with hq | hq
              · exact (HS.out _ HB4.out).rows q (HMm.out q (List.mem_append.2 (.inl hq)))
              · rw [List.mem_singleton.1 hq]; exact HX4.out.lower HBase.out
            · exact (HS.out _ HB4.out).rows q (HMm.out q (List.mem_append.2 (.inr hq)))⟩)
          have hlen : (L3 ++ L2).length = i + 1 := by rw [List.length_append, hl3, hl2]; omega
          obtain ⟨X4, c4, rfl, _⟩ := own_form HN4.out
          rw [hlen] at HR4
          have HW4 := hide (Bel.trans2 HW.out HB4.out)
          clear HN4 HX4 HB4 HS HW HD HMm
          go_roundw
          case rel => exact ⟨i + 1, X4, c4, _, by omega, by go_num, by rw [hlen], hlen, ⟨HW4.out, HR4.out⟩, by have := HI.out; unfold sndL; rw [← HL3.out, List.map_append, List.map_append, List.append_assoc]; exact this⟩
          case measure => simp [intOf]; omega
    · have hlti : ¬ (i : Int) < n := by omega
      obtain rfl : i = n := by omega
      have HX := hide (HI.out.done (by have := HLen.out; omega) HAll.out)
      have HR := hide HM.out.2
      have HB := hide HM.out.1
      clear HI HM
      go_wp2_with fail
      go_ret
      exact ⟨X, cx, os, rfl, HR.out, HX.out, HB.out⟩
end Go.Proofs.Ytahdkfenpflahaa
