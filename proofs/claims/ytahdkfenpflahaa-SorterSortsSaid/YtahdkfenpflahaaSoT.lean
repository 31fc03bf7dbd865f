/- The contract of the reference's List: are two lists of rows the same? -/
import Derived.Test.YtahdkfenpflahaaSoS
namespace Go.Proofs.Ytahdkfenpflahaa
set_option linter.unusedVariables false
open Go.ChangeShapes Go.WideShapes Go.ChangeAt Go.RowKit

/-- A head that stands in memory. -/
structure HeadAt (w : World) (b p : Nat) (A : Option Addr) (n c : Nat) : Prop where
  lt : b < w.heap.size
  c0 : w.cell? ⟨b, p, none⟩ = some (.slice A n c)
theorem HeadAt.kept {w w' : World} {b p n c : Nat} {A : Option Addr} (h : HeadAt w b p A n c) (hb : Below w.heap.size w w') : HeadAt w' b p A n c :=
  ⟨Nat.lt_of_lt_of_le h.lt hb.size, (World.cell?_of_block (hb.block b h.lt)).trans h.c0⟩
theorem HsAt.head {w : World} {A : Option Addr} {n c : Nat} {ps : List HRow} (h : HsAt w A n c ps) {i : Nat} (hi : i < n) : ∃ b off p, A = some ⟨b, off, none⟩ ∧ ps[i]? = some p ∧ HeadAt w b (off + i) p.1.A p.1.n p.1.c := by
  obtain ⟨b, off, p, e, hb, hp, hc⟩ := h.cell hi
  exact ⟨b, off, p, e, hp, hb, hc⟩
def sndL (ps : List HRow) : List (List ValV) := ps.map Prod.snd
def GivesList (w : World) (ps qs : List HRow) (e : Ending) (w' : World) : Prop := ∃ q : Bool, e = .returned (.bool q) ∧ (q = true ↔ sndL ps = sndL qs) ∧ Below w.heap.size w w'
set_option maxRecDepth 100000 in
set_option maxHeartbeats 2000000 in
theorem List_c (A A2 : Option Addr) (n c n2 c2 : Nat) (ps qs : List HRow) (w : World) (h : HsAt w A n c ps) (h2 : HsAt w A2 n2 c2 qs) (g : ∀ p ∈ ps, StrsOk p.2) (g2 : ∀ p ∈ qs, StrsOk p.2) :
    Calls Try.prog 15 #[.slice A n c, .slice A2 n2 c2] w (GivesList w ps qs) := by
  have HP := hide h
  have HQ := hide h2
  have HG := hide g
  have HG2 := hide g2
  have hl := h.sl.len
  have hl2 := h2.sl.len
  have m1 := Nat.le_trans h.sl.cap h.sl.max
  have m2 := Nat.le_trans h2.sl.cap h2.sl.max
  unfold maxLen at m1 m2
  clear h h2 g g2
  go_enter Try.func15, Try.ntmps15
  go_wp2_with fail
  go_loopw [5] (fun i wr => ∃ k : Nat, k ≤ n ∧ k ≤ n2 ∧ i = .int .i64 k ∧ Hid (sndL (ps.take k) = sndL (qs.take k)) ∧ Hid (Below w.heap.size w wr)) (fun i _ => n - (intOf i).toNat)
  case atStart => exact ⟨0, Nat.zero_le _, Nat.zero_le _, rfl, rfl, Below.refl _ _⟩
  case round =>
    obtain ⟨k, hkn, hkn2, rfl, HE, HB⟩ := hrel
    by_cases hlt : k < n
    · have hlti : (k : Int) < n := by omega
      by_cases hlt2 : k < n2
      · have hlti2 : (k : Int) < n2 := by omega
        have hwk : IntKind.i64.wrap ((k : Int) + 1) = (k : Int) + 1 := IntWalk.i64_in _ (by omega)
        have HPk := hide (HP.out.kept HB.out)
        have HQk := hide (HQ.out.kept HB.out)
        obtain ⟨b, off, p, rfl, hp, Ha⟩ := HPk.out.head hlt
        obtain ⟨b2, off2, q, rfl, hq, Hb⟩ := HQk.out.head hlt2
        have Q := hide (fun (W : World) (hW : Below w.heap.size w W) => rorders_c p.1.A q.1.A p.1.n p.1.c q.1.n q.1.c p.2 q.2 W ((HP.out.kept hW).each p (List.mem_of_getElem? hp)) ((HQ.out.kept hW).each q (List.mem_of_getElem? hq)) (HG.out p (List.mem_of_getElem? hp)) (HG2.out q (List.mem_of_getElem? hq)))
        have HN : Hid (cmpR p.2 q.2 = 0 → sndL (ps.take (k + 1)) = sndL (qs.take (k + 1))) := fun hz => by
          have h1 := HE.out
          unfold sndL at *
          rw [take_at hp, take_at hq, List.map_append, List.map_append, h1, List.map_cons, List.map_cons, cmpR_zero.1 hz, List.map_nil]
        have HX : Hid (cmpR p.2 q.2 ≠ 0 → sndL ps ≠ sndL qs) := fun hz he => by
          apply hz
          unfold sndL at he
          have e1 : (ps.map Prod.snd)[k]? = some p.2 := by rw [List.getElem?_map, hp]; rfl
          have e2 : (qs.map Prod.snd)[k]? = some q.2 := by rw [List.getElem?_map, hq]; rfl
          rw [he, e2] at e1
          injection e1 with e1
          rw [e1]
          exact cmpR_refl _
        clear HE hp hq HPk HQk
        generalize cmpR p.2 q.2 = x at *
        generalize p.1.A = pA at *
        generalize p.1.n = pn at *
        generalize p.1.c = pc at *
        generalize q.1.A = qA at *
        generalize q.1.n = qn at *
        generalize q.1.c = qc at *
        replace Ha := hide Ha
        replace Hb := hide Hb
        go_upto_region 4 with (fail)
        refine wp_region_held_drew (S := (fun w' => HeadAt w' b (off + k) pA pn pc ∧ HeadAt w' b2 (off2 + k) qA qn qc ∧ Below w.heap.size w w')) (by kernel_rfl) (⟨Ha.out.kept (Below.refl _ _).drew, Hb.out.kept (Below.refl _ _).drew, HB.out.drew⟩) (fun hHeld => ?_)
        first | (refine wpAnyH_take (i := 0) (v := ?_) nth0 (by kernel_rfl) (by kernel_rfl) (by kernel_rfl) (fun _ _ _ h => h) (Or.inl ⟨by rfl, ?_⟩) hHeld ?_; rotate_left; focus (intro wS hSw; (obtain ⟨_, a_0⟩ := hSw.1; obtain ⟨_, b_0⟩ := hSw.2.1); go_simp; try with_reducible rfl; done)) | (refine wpAnyH_take (i := 0) (v := undef) nth0 (by kernel_rfl) (by kernel_rfl) (by kernel_rfl) (fun _ _ _ h => h) (Or.inr ⟨by rfl, rfl⟩) hHeld ?_)
        (try simp only [Act.put]); (try simp only [List.setIfInBounds_toArray]); (try simp only [List.set_cons_succ]); (try simp only [List.set_cons_zero])
        first | (refine wpAnyH_take (i := 1) (v := ?_) nth1 (by kernel_rfl) (by kernel_rfl) (by kernel_rfl) (fun _ _ _ h => h) (Or.inl ⟨by rfl, ?_⟩) hHeld ?_; rotate_left; focus (intro wS hSw; (obtain ⟨_, a_0⟩ := hSw.1; obtain ⟨_, b_0⟩ := hSw.2.1); go_simp; try with_reducible rfl; done)) | (refine wpAnyH_take (i := 1) (v := undef) nth1 (by kernel_rfl) (by kernel_rfl) (by kernel_rfl) (fun _ _ _ h => h) (Or.inr ⟨by rfl, rfl⟩) hHeld ?_)
        (try simp only [Act.put]); (try simp only [List.setIfInBounds_toArray]); (try simp only [List.set_cons_succ]); (try simp only [List.set_cons_zero])
        first | (refine wpAnyH_take (i := 2) (v := ?_) nth2 (by kernel_rfl) (by kernel_rfl) (by kernel_rfl) (fun _ _ _ h => h) (Or.inl ⟨by rfl, ?_⟩) hHeld ?_; rotate_left; focus (intro wS hSw; (obtain ⟨_, a_0⟩ := hSw.1; obtain ⟨_, b_0⟩ := hSw.2.1); go_simp; try with_reducible rfl; done)) | (refine wpAnyH_take (i := 2) (v := undef) nth2 (by kernel_rfl) (by kernel_rfl) (by kernel_rfl) (fun _ _ _ h => h) (Or.inr ⟨by rfl, rfl⟩) hHeld ?_)
        (try simp only [Act.put]); (try simp only [List.setIfInBounds_toArray]); (try simp only [List.set_cons_succ]); (try simp only [List.set_cons_zero])
        first | (refine wpAnyH_take (i := 3) (v := ?_) nth3 (by kernel_rfl) (by kernel_rfl) (by kernel_rfl) (fun _ _ _ h => h) (Or.inl ⟨by rfl, ?_⟩) hHeld ?_; rotate_left; focus (intro wS hSw; (obtain ⟨_, a_0⟩ := hSw.1; obtain ⟨_, b_0⟩ := hSw.2.1); go_simp; try with_reducible rfl; done)) | (refine wpAnyH_take (i := 3) (v := undef) nth3 (by kernel_rfl) (by kernel_rfl) (by kernel_rfl) (fun _ _ _ h => h) (Or.inr ⟨by rfl, rfl⟩) hHeld ?_)
        (try simp only [Act.put]); (try simp only [List.setIfInBounds_toArray]); (try simp only [List.set_cons_succ]); (try simp only [List.set_cons_zero])
        first | (refine wpAnyH_take (i := 4) (v := ?_) nth4 (by kernel_rfl) (by kernel_rfl) (by kernel_rfl) (fun _ _ _ h => h) (Or.inl ⟨by rfl, ?_⟩) hHeld ?_; rotate_left; focus (intro wS hSw; (obtain ⟨_, a_0⟩ := hSw.1; obtain ⟨_, b_0⟩ := hSw.2.1); go_simp; try with_reducible rfl; done)) | (refine wpAnyH_take (i := 4) (v := undef) nth4 (by kernel_rfl) (by kernel_rfl) (by kernel_rfl) (fun _ _ _ h => h) (Or.inr ⟨by rfl, rfl⟩) hHeld ?_)
        (try simp only [Act.put]); (try simp only [List.setIfInBounds_toArray]); (try simp only [List.set_cons_succ]); (try simp only [List.set_cons_zero])
        first | (refine wpAnyH_take (i := 5) (v := ?_) nth5 (by kernel_rfl) (by kernel_rfl) (by kernel_rfl) (fun _ _ _ h => h) (Or.inl ⟨by rfl, ?_⟩) hHeld ?_; rotate_left; focus (intro wS hSw; (obtain ⟨_, a_0⟩ := hSw.1; obtain ⟨_, b_0⟩ := hSw.2.1); go_simp; try with_reducible rfl; done)) | (refine wpAnyH_take (i := 5) (v := undef) nth5 (by kernel_rfl) (by kernel_rfl) (by kernel_rfl) (fun _ _ _ h => h) (Or.inr ⟨by rfl, rfl⟩) hHeld ?_)
        (try simp only [Act.put]); (try simp only [List.setIfInBounds_toArray]); (try simp only [List.set_cons_succ]); (try simp only [List.set_cons_zero])
        first | (refine wpAnyH_take (i := 6) (v := ?_) nth6 (by kernel_rfl) (by kernel_rfl) (by kernel_rfl) (fun _ _ _ h => h) (Or.inl ⟨by rfl, ?_⟩) hHeld ?_; rotate_left; focus (intro wS hSw; (obtain ⟨_, a_0⟩ := hSw.1; obtain ⟨_, b_0⟩ := hSw.2.1); go_simp; try with_reducible rfl; done)) | (refine wpAnyH_take (i := 6) (v := undef) nth6 (by kernel_rfl) (by kernel_rfl) (by kernel_rfl) (fun _ _ _ h => h) (Or.inr ⟨by rfl, rfl⟩) hHeld ?_)
        (try simp only [Act.put]); (try simp only [List.setIfInBounds_toArray]); (try simp only [List.set_cons_succ]); (try simp only [List.set_cons_zero])
        first | (refine wpAnyH_take (i := 7) (v := ?_) nth7 (by kernel_rfl) (by kernel_rfl) (by kernel_rfl) (fun _ _ _ h => h) (Or.inl ⟨by rfl, ?_⟩) hHeld ?_; rotate_left; focus (intro wS hSw; (obtain ⟨_, a_0⟩ := hSw.1; obtain ⟨_, b_0⟩ := hSw.2.1); go_simp; try with_reducible rfl; done)) | (refine wpAnyH_take (i := 7) (v := undef) nth7 (by kernel_rfl) (by kernel_rfl) (by kernel_rfl) (fun _ _ _ h => h) (Or.inr ⟨by rfl, rfl⟩) hHeld ?_)
        (try simp only [Act.put]); (try simp only [List.setIfInBounds_toArray]); (try simp only [List.set_cons_succ]); (try simp only [List.set_cons_zero])
        refine wpAnyH_ready (rs := [8]) (by kernel_rfl) (by simp) ?_
        refine AllReadyH.cons nth8 (fun K hK => ?_) AllReadyH.nil
        go_simp
        (go_at_call 12; refine (Q.out _ hHeld.2.2).mono ?_; rintro e w' ⟨rfl, hb⟩)
        refine hK.out _ _ (⟨hHeld.1.kept hb, hHeld.2.1.kept hb, Bel.then hHeld.2.2 hb⟩) (fun hHeld => ?_)
        clear hK K
        (try simp only [Act.put]); (try simp only [List.setIfInBounds_toArray]); (try simp only [List.set_cons_succ]); (try simp only [List.set_cons_zero])
        first | (refine wpAnyH_take (i := 9) (v := ?_) nth9 (by kernel_rfl) (by kernel_rfl) (by kernel_rfl) (fun _ _ _ h => h) (Or.inl ⟨by rfl, ?_⟩) hHeld ?_; rotate_left; focus (intro wS hSw; (obtain ⟨_, a_0⟩ := hSw.1; obtain ⟨_, b_0⟩ := hSw.2.1); go_simp; try with_reducible rfl; done)) | (refine wpAnyH_take (i := 9) (v := undef) nth9 (by kernel_rfl) (by kernel_rfl) (by kernel_rfl) (fun _ _ _ h => h) (Or.inr ⟨by rfl, rfl⟩) hHeld ?_)
        (try simp only [Act.put]); (try simp only [List.setIfInBounds_toArray]); (try simp only [List.set_cons_succ]); (try simp only [List.set_cons_zero])
        refine wpAnyH_done (by kernel_rfl) ?_ _
        replace HB := hide hHeld.2.2
        clear hb hHeld Ha Hb Q
        by_cases hx : x = 0
        · have HY := hide (HN.out hx)
          have f1 : (x != 0) = false := by simp [hx]
          clear hx HN HX
          go_wp2_with fail
          go_roundw
          case rel => exact ⟨k + 1, by omega, by omega, by go_num, HY, HB⟩
          case measure => simp [intOf]; omega
        · have HY := hide (HX.out hx)
          have f1 : (x != 0) = true := by simp [hx]
          clear hx HN HX
          go_wp2_with fail
          go_ret
          exact ⟨false, rfl, ⟨fun e => (by cases e), fun e => absurd e HY.out⟩, HB.out⟩
      · have hlti2 : ¬ (k : Int) < n2 := by omega
        have hz : ((n : Int) == (n2 : Int)) = false := by rw [beq_eq_false_iff_ne]; omega
        have HY : Hid (sndL ps ≠ sndL qs) := fun e => by
          have := congrArg List.length e
          unfold sndL at this
          rw [List.length_map, List.length_map] at this
          omega
        clear HE
        go_wp2_with fail
        go_ret
        exact ⟨false, rfl, ⟨fun e => (by cases e), fun e => absurd e HY.out⟩, HB.out⟩
    · have hlti : ¬ (k : Int) < n := by omega
      obtain rfl : k = n := by omega
      by_cases he : k = n2
      · have HY : Hid (sndL ps = sndL qs) := by
          have := HE.out
          rw [List.take_of_length_le (by omega), List.take_of_length_le (by omega)] at this
          exact this
        have hz : ((k : Int) == (n2 : Int)) = true := by rw [beq_iff_eq]; omega
        clear HE he
        go_wp2_with fail
        go_ret
        exact ⟨true, rfl, ⟨fun _ => HY.out, fun _ => rfl⟩, HB.out⟩
      · have HY : Hid (sndL ps ≠ sndL qs) := fun e => by
          have := congrArg List.length e
          unfold sndL at this
          rw [List.length_map, List.length_map] at this
          omega
        have hz : ((k : Int) == (n2 : Int)) = false := by rw [beq_eq_false_iff_ne]; omega
        clear HE he
        go_wp2_with fail
        go_ret
        exact ⟨false, rfl, ⟨fun e => (by cases e), fun e => absurd e HY.out⟩, HB.out⟩
end Go.Proofs.Ytahdkfenpflahaa
