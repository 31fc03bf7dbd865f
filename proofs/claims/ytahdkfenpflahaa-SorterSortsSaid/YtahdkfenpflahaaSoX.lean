/- The contract of the reference's least. -/
import Derived.Test.YtahdkfenpflahaaSoW
import Derived.Test.YtahdkfenpflahaaSoB
import Derived.Deep.Cut
namespace Go.Proofs.Ytahdkfenpflahaa
set_option linter.unusedVariables false
open Go.ChangeShapes Go.WideShapes Go.ChangeAt Go.RowKit

theorem GsAt.head {w : World} {A : Option Addr} {n c : Nat} {gs : List GRun} (h : GsAt w A n c gs) {i : Nat} (hi : i < n) : ∃ b off p, A = some ⟨b, off, none⟩ ∧ gs[i]? = some p ∧ HeadAt w b (off + i) p.1.A p.1.n p.1.c := by
  obtain ⟨b, off, p, e, hb, hp, hc⟩ := h.cell hi
  exact ⟨b, off, p, e, hp, hb, hc⟩
theorem GsAt.head2 {w : World} {A : Option Addr} {n c : Nat} {gs : List GRun} (h : GsAt w A n c gs) {i j : Nat} (hi : i < n) (hj : j < n) : ∃ b off p q, A = some ⟨b, off, none⟩ ∧ gs[i]? = some p ∧ HeadAt w b (off + i) p.1.A p.1.n p.1.c ∧ gs[j]? = some q ∧ HeadAt w b (off + j) q.1.A q.1.n q.1.c := by
  obtain ⟨b, off, p, e, hp, h1⟩ := h.head hi
  obtain ⟨b', off', q, e', hq, h2⟩ := h.head hj
  rw [e] at e'
  injection e' with e'
  injection e' with e1 e2
  subst e1 e2
  exact ⟨b, off, p, q, e, hp, h1, hq, h2⟩
theorem HsAt.front {w : World} {A : Option Addr} {n c : Nat} {r : HRow} {ps : List HRow} (h : HsAt w A n c (r :: ps)) : ∃ b off, A = some ⟨b, off, none⟩ ∧ HeadAt w b off r.1.A r.1.n r.1.c := by
  obtain ⟨b, off, p, e, hp, h1⟩ := h.head (i := 0) (by have := h.sl.len; simp at this; omega)
  injection hp with hp
  subst hp
  exact ⟨b, off, e, h1⟩
theorem rowsG_at {gs : List GRun} {i : Nat} {g : GRun} (h : gs[i]? = some g) : (rowsG gs)[i]? = some (sndL g.2) := by
  unfold rowsG
  rw [List.getElem?_map, h]
  rfl
def GivesLeast (w : World) (L : List (List (List ValV))) (ks : List (Int × Bool)) (e : Ending) (w' : World) : Prop := ∃ v : Int, e = .returned (.int .i64 v) ∧ LeastSt (ltR ks) L L.length v ∧ Below w.heap.size w w'
set_option maxRecDepth 100000 in
set_option maxHeartbeats 4000000 in
theorem least_c (A A3 : Option Addr) (n c n3 c3 : Nat) (gs : List GRun) (ks : List (Int × Bool)) (w : World) (h : GsAt w A n c gs) (hk : KeysAt w w.heap.size A3 n3 c3 ks) (ha : ∀ l ∈ rowsG gs, ∀ r ∈ l, AllK ks r) (hs : ∀ l ∈ rowsG gs, ∀ r ∈ l, StrsOk r) :
    Calls Try.prog 34 #[.slice A n c, .slice A3 n3 c3] w (GivesLeast w (rowsG gs) ks) := by
  have hL : (rowsG gs).length = n := by unfold rowsG; rw [List.length_map]; exact h.sl.len
  have HL := hide hL
  have m1 := Nat.le_trans h.sl.cap h.sl.max
  unfold maxLen at m1
  have HG := hide h
  have HK := hide hk
  have HA := hide ha
  have HS := hide hs
  have HR := hide (fun i g => rowsG_at (gs := gs) (i := i) (g := g))
  generalize rowsG gs = L at *
  clear h hk ha hs hL
  go_enter Try.func34, Try.ntmps34
  go_wp2_with fail
  go_loopw [5, 6] (fun kv iv wr => ∃ (i : Nat) (v : Int), i ≤ n ∧ iv = .int .i64 i ∧ kv = .int .i64 v ∧ Hid (LeastSt (ltR ks) L i v) ∧ Hid (Below w.heap.size w wr)) (fun _ iv _ => n - (intOf iv).toNat)
  case atStart => exact ⟨0, -1, Nat.zero_le _, rfl, rfl, LeastSt.zero, Below.refl _ _⟩
  case round =>
    obtain ⟨i, v, hin, rfl, rfl, HE, HB⟩ := hrel
    by_cases hlt : i < n
    · have hlti : (i : Int) < n := by omega
      have hwi : IntKind.i64.wrap ((i : Int) + 1) = (i : Int) + 1 := IntWalk.i64_in _ (by omega)
      obtain ⟨b, off, p, rfl, hp, Ha⟩ := (HG.out.kept HB.out).head hlt
      have hps := HG.out.each p (List.mem_of_getElem? hp)
      have hLi := HR.out i p hp
      obtain ⟨⟨pA, pn, pc⟩, ps⟩ := p
      simp only at Ha hps hLi
      cases ps with
      | nil =>
        obtain rfl : pn = 0 := hps.sl.len.symm
        have HE2 := hide (HE.out.skip hLi)
        obtain ⟨_, a_0⟩ := Ha
        have fz : decide ((0 : Int) < ((0 : Nat) : Int)) = false := by decide
        clear HE hps hLi hp
        go_upto_region 5 with (fail)
        go_quiet (fail)
        go_wp2_with fail
        go_roundw
        case rel => exact ⟨i + 1, v, by omega, by go_num, rfl, HE2, Bel.drewN HB.out _⟩
        case measure => simp [intOf]; omega
      | cons r ps =>
        have hpn : 0 < pn := by have := hps.sl.len; simp at this; omega
        have hpni : (0 : Int) < pn := by omega
        have fz : decide ((0 : Int) < (pn : Int)) = true := decide_eq_true hpni
        have HE' := HE.out
        rcases HE' with ⟨rfl, he⟩ | ⟨j, x, t, rfl, hj⟩
        · have HE2 := hide (HE.out.fresh hLi (befB_irrefl r.2 ks))
          obtain ⟨_, a_0⟩ := Ha
          clear HE hps hLi hp he
          go_upto_region 5 with (fail)
          go_quiet (fail)
          go_wp2_with fail
          go_roundw
          case rel => exact ⟨i + 1, i, by omega, by go_num, rfl, HE2, Bel.drewN HB.out _⟩
          case measure => simp [intOf]; omega
        · have hjn : j < n := by have := hj.small; omega
          have hjni : (j : Int) < n := by omega
          have hj0 : ¬ (j : Int) < 0 := by omega
          have fj : decide ((j : Int) < 0) = false := decide_eq_false hj0
          obtain ⟨b', off', q, e', hq, Hb⟩ := (HG.out.kept HB.out).head hjn
          injection e' with e'
          injection e' with e1 e2
          subst e1 e2
          have hqs := HG.out.each q (List.mem_of_getElem? hq)
          have hLj := HR.out j q hq
          rw [hj.at_] at hLj
          obtain ⟨⟨qA, qn, qc⟩, qs⟩ := q
          simp only at Hb hqs hLj
          cases qs with
          | nil => injection hLj with hLj; cases hLj
          | cons s qs =>
            have hsx : x = s.2 := by injection hLj with hLj; injection hLj
            subst hsx
            have hqn : 0 < qn := by have := hqs.sl.len; simp at this; omega
            have hqni : (0 : Int) < qn := by omega
            have Q := hide (fun (W : World) (hW : Below w.heap.size w W) => rbefore_c r.1.A s.1.A A3 r.1.n r.1.c s.1.n s.1.c n3 c3 r.2 s.2 ks W ((hps.kept hW).each r (by simp)) ((hqs.kept hW).each s (by simp)) (HK.out.kept hW) (HS.out _ (List.mem_of_getElem? hLi) r.2 (by simp [sndL])) (HS.out _ (List.mem_of_getElem? hj.at_) s.2 (by simp)))
            obtain ⟨pb, poff, rfl, Hc⟩ := (hps.kept HB.out).front
            obtain ⟨qb, qoff, rfl, Hd⟩ := (hqs.kept HB.out).front
            have HT : Hid (befB r.2 s.2 ks = true → LeastSt (ltR ks) L (i + 1) i) := fun hq => .inr ⟨i, r.2, _, rfl, hj.take (ordK ks) HA.out hLi hq⟩
            have HF : Hid (befB r.2 s.2 ks = false → LeastSt (ltR ks) L (i + 1) j) := fun hq => .inr ⟨j, s.2, t, rfl, hj.keep hLi hq⟩
            generalize befB r.2 s.2 ks = q at *
            replace Ha := hide Ha
            replace Hb := hide Hb
            replace Hc := hide Hc
            replace Hd := hide Hd
            clear HE hps hqs hLi hLj hp hq hj
            generalize r.1.A = rA at *
            generalize r.1.n = rn at *
            generalize r.1.c = rc at *
            generalize s.1.A = sA at *
            generalize s.1.n = sn at *
            generalize s.1.c = sc at *
            cases q with
            | true =>
              have HE2 := hide (HT.out rfl)
              clear HT HF
              go_upto_region 5 with (fail)
              refine wp_region_held_drew (S := (fun w' => HeadAt w' b (off + i) (some ⟨pb, poff, none⟩) pn pc ∧ HeadAt w' b (off + j) (some ⟨qb, qoff, none⟩) qn qc ∧ HeadAt w' pb poff rA rn rc ∧ HeadAt w' qb qoff sA sn sc ∧ Below w.heap.size w w')) (by kernel_rfl) (⟨Ha.out.kept (Below.refl _ _).drew, Hb.out.kept (Below.refl _ _).drew, Hc.out.kept (Below.refl _ _).drew, Hd.out.kept (Below.refl _ _).drew, HB.out.drew⟩) (fun hHeld => ?_)
              first | (refine wpAnyH_take (i := 0) (v := ?_) nth0 (by kernel_rfl) (by kernel_rfl) (by kernel_rfl) (fun _ _ _ h => h) (Or.inl ⟨by rfl, ?_⟩) hHeld ?_; rotate_left; focus (intro wS hSw; (obtain ⟨_, a_0⟩ := hSw.1; obtain ⟨_, b_0⟩ := hSw.2.1; obtain ⟨_, c_0⟩ := hSw.2.2.1; obtain ⟨_, d_0⟩ := hSw.2.2.2.1); go_simp; try with_reducible rfl; done)) | (refine wpAnyH_take (i := 0) (v := undef) nth0 (by kernel_rfl) (by kernel_rfl) (by kernel_rfl) (fun _ _ _ h => h) (Or.inr ⟨by rfl, rfl⟩) hHeld ?_)
              (try simp only [Act.put]); (try simp only [List.setIfInBounds_toArray]); (try simp only [List.set_cons_succ]); (try simp only [List.set_cons_zero])
              first | (refine wpAnyH_take (i := 1) (v := ?_) nth1 (by kernel_rfl) (by kernel_rfl) (by kernel_rfl) (fun _ _ _ h => h) (Or.inl ⟨by rfl, ?_⟩) hHeld ?_; rotate_left; focus (intro wS hSw; (obtain ⟨_, a_0⟩ := hSw.1; obtain ⟨_, b_0⟩ := hSw.2.1; obtain ⟨_, c_0⟩ := hSw.2.2.1; obtain ⟨_, d_0⟩ := hSw.2.2.2.1); go_simp; try with_reducible rfl; done)) | (refine wpAnyH_take (i := 1) (v := undef) nth1 (by kernel_rfl) (by kernel_rfl) (by kernel_rfl) (fun _ _ _ h => h) (Or.inr ⟨by rfl, rfl⟩) hHeld ?_)
              (try simp only [Act.put]); (try simp only [List.setIfInBounds_toArray]); (try simp only [List.set_cons_succ]); (try simp only [List.set_cons_zero])
              first | (refine wpAnyH_take (i := 2) (v := ?_) nth2 (by kernel_rfl) (by kernel_rfl) (by kernel_rfl) (fun _ _ _ h => h) (Or.inl ⟨by rfl, ?_⟩) hHeld ?_; rotate_left; focus (intro wS hSw; (obtain ⟨_, a_0⟩ := hSw.1; obtain ⟨_, b_0⟩ := hSw.2.1; obtain ⟨_, c_0⟩ := hSw.2.2.1; obtain ⟨_, d_0⟩ := hSw.2.2.2.1); go_simp; try with_reducible rfl; done)) | (refine wpAnyH_take (i := 2) (v := undef) nth2 (by kernel_rfl) (by kernel_rfl) (by kernel_rfl) (fun _ _ _ h => h) (Or.inr ⟨by rfl, rfl⟩) hHeld ?_)
              (try simp only [Act.put]); (try simp only [List.setIfInBounds_toArray]); (try simp only [List.set_cons_succ]); (try simp only [List.set_cons_zero])
              first | (refine wpAnyH_take (i := 3) (v := ?_) nth3 (by kernel_rfl) (by kernel_rfl) (by kernel_rfl) (fun _ _ _ h => h) (Or.inl ⟨by rfl, ?_⟩) hHeld ?_; rotate_left; focus (intro wS hSw; (obtain ⟨_, a_0⟩ := hSw.1; obtain ⟨_, b_0⟩ := hSw.2.1; obtain ⟨_, c_0⟩ := hSw.2.2.1; obtain ⟨_, d_0⟩ := hSw.2.2.2.1); go_simp; try with_reducible rfl; done)) | (refine wpAnyH_take (i := 3) (v := undef) nth3 (by kernel_rfl) (by kernel_rfl) (by kernel_rfl) (fun _ _ _ h => h) (Or.inr ⟨by rfl, rfl⟩) hHeld ?_)
              (try simp only [Act.put]); (try simp only [List.setIfInBounds_toArray]); (try simp only [List.set_cons_succ]); (try simp only [List.set_cons_zero])
              first | (refine wpAnyH_take (i := 4) (v := ?_) nth4 (by kernel_rfl) (by kernel_rfl) (by kernel_rfl) (fun _ _ _ h => h) (Or.inl ⟨by rfl, ?_⟩) hHeld ?_; rotate_left; focus (intro wS hSw; (obtain ⟨_, a_0⟩ := hSw.1; obtain ⟨_, b_0⟩ := hSw.2.1; obtain ⟨_, c_0⟩ := hSw.2.2.1; obtain ⟨_, d_0⟩ := hSw.2.2.2.1); go_simp; try with_reducible rfl; done)) | (refine wpAnyH_take (i := 4) (v := undef) nth4 (by kernel_rfl) (by kernel_rfl) (by kernel_rfl) (fun _ _ _ h => h) (Or.inr ⟨by rfl, rfl⟩) hHeld ?_)
              (try simp only [Act.put]); (try simp only [List.setIfInBounds_toArray]); (try simp only [List.set_cons_succ]); (try simp only [List.set_cons_zero])
              first | (refine wpAnyH_take (i := 5) (v := ?_) nth5 (by kernel_rfl) (by kernel_rfl) (by kernel_rfl) (fun _ _ _ h => h) (Or.inl ⟨by rfl, ?_⟩) hHeld ?_; rotate_left; focus (intro wS hSw; (obtain ⟨_, a_0⟩ := hSw.1; obtain ⟨_, b_0⟩ := hSw.2.1; obtain ⟨_, c_0⟩ := hSw.2.2.1; obtain ⟨_, d_0⟩ := hSw.2.2.2.1); go_simp; try with_reducible rfl; done)) | (refine wpAnyH_take (i := 5) (v := undef) nth5 (by kernel_rfl) (by kernel_rfl) (by kernel_rfl) (fun _ _ _ h => h) (Or.inr ⟨by rfl, rfl⟩) hHeld ?_)
              (try simp only [Act.put]); (try simp only [List.setIfInBounds_toArray]); (try simp only [List.set_cons_succ]); (try simp only [List.set_cons_zero])
              first | (refine wpAnyH_take (i := 6) (v := ?_) nth6 (by kernel_rfl) (by kernel_rfl) (by kernel_rfl) (fun _ _ _ h => h) (Or.inl ⟨by rfl, ?_⟩) hHeld ?_; rotate_left; focus (intro wS hSw; (obtain ⟨_, a_0⟩ := hSw.1; obtain ⟨_, b_0⟩ := hSw.2.1; obtain ⟨_, c_0⟩ := hSw.2.2.1; obtain ⟨_, d_0⟩ := hSw.2.2.2.1); go_simp; try with_reducible rfl; done)) | (refine wpAnyH_take (i := 6) (v := undef) nth6 (by kernel_rfl) (by kernel_rfl) (by kernel_rfl) (fun _ _ _ h => h) (Or.inr ⟨by rfl, rfl⟩) hHeld ?_)
              (try simp only [Act.put]); (try simp only [List.setIfInBounds_toArray]); (try simp only [List.set_cons_succ]); (try simp only [List.set_cons_zero])
              first | (refine wpAnyH_take (i := 7) (v := ?_) nth7 (by kernel_rfl) (by kernel_rfl) (by kernel_rfl) (fun _ _ _ h => h) (Or.inl ⟨by rfl, ?_⟩) hHeld ?_; rotate_left; focus (intro wS hSw; (obtain ⟨_, a_0⟩ := hSw.1; obtain ⟨_, b_0⟩ := hSw.2.1; obtain ⟨_, c_0⟩ := hSw.2.2.1; obtain ⟨_, d_0⟩ := hSw.2.2.2.1); go_simp; try with_reducible rfl; done)) | (refine wpAnyH_take (i := 7) (v := undef) nth7 (by kernel_rfl) (by kernel_rfl) (by kernel_rfl) (fun _ _ _ h => h) (Or.inr ⟨by rfl, rfl⟩) hHeld ?_)
              (try simp only [Act.put]); (try simp only [List.setIfInBounds_toArray]); (try simp only [List.set_cons_succ]); (try simp only [List.set_cons_zero])
              first | (refine wpAnyH_take (i := 8) (v := ?_) nth8 (by kernel_rfl) (by kernel_rfl) (by kernel_rfl) (fun _ _ _ h => h) (Or.inl ⟨by rfl, ?_⟩) hHeld ?_; rotate_left; focus (intro wS hSw; (obtain ⟨_, a_0⟩ := hSw.1; obtain ⟨_, b_0⟩ := hSw.2.1; obtain ⟨_, c_0⟩ := hSw.2.2.1; obtain ⟨_, d_0⟩ := hSw.2.2.2.1); go_simp; try with_reducible rfl; done)) | (refine wpAnyH_take (i := 8) (v := undef) nth8 (by kernel_rfl) (by kernel_rfl) (by kernel_rfl) (fun _ _ _ h => h) (Or.inr ⟨by rfl, rfl⟩) hHeld ?_)
              (try simp only [Act.put]); (try simp only [List.setIfInBounds_toArray]); (try simp only [List.set_cons_succ]); (try simp only [List.set_cons_zero])
              first | (refine wpAnyH_take (i := 9) (v := ?_) nth9 (by kernel_rfl) (by kernel_rfl) (by kernel_rfl) (fun _ _ _ h => h) (Or.inl ⟨by rfl, ?_⟩) hHeld ?_; rotate_left; focus (intro wS hSw; (obtain ⟨_, a_0⟩ := hSw.1; obtain ⟨_, b_0⟩ := hSw.2.1; obtain ⟨_, c_0⟩ := hSw.2.2.1; obtain ⟨_, d_0⟩ := hSw.2.2.2.1); go_simp; try with_reducible rfl; done)) | (refine wpAnyH_take (i := 9) (v := undef) nth9 (by kernel_rfl) (by kernel_rfl) (by kernel_rfl) (fun _ _ _ h => h) (Or.inr ⟨by rfl, rfl⟩) hHeld ?_)
              (try simp only [Act.put]); (try simp only [List.setIfInBounds_toArray]); (try simp only [List.set_cons_succ]); (try simp only [List.set_cons_zero])
              first | (refine wpAnyH_take (i := 10) (v := ?_) nth10 (by kernel_rfl) (by kernel_rfl) (by kernel_rfl) (fun _ _ _ h => h) (Or.inl ⟨by rfl, ?_⟩) hHeld ?_; rotate_left; focus (intro wS hSw; (obtain ⟨_, a_0⟩ := hSw.1; obtain ⟨_, b_0⟩ := hSw.2.1; obtain ⟨_, c_0⟩ := hSw.2.2.1; obtain ⟨_, d_0⟩ := hSw.2.2.2.1); go_simp; try with_reducible rfl; done)) | (refine wpAnyH_take (i := 10) (v := undef) nth10 (by kernel_rfl) (by kernel_rfl) (by kernel_rfl) (fun _ _ _ h => h) (Or.inr ⟨by rfl, rfl⟩) hHeld ?_)
              (try simp only [Act.put]); (try simp only [List.setIfInBounds_toArray]); (try simp only [List.set_cons_succ]); (try simp only [List.set_cons_zero])
              first | (refine wpAnyH_take (i := 11) (v := ?_) nth11 (by kernel_rfl) (by kernel_rfl) (by kernel_rfl) (fun _ _ _ h => h) (Or.inl ⟨by rfl, ?_⟩) hHeld ?_; rotate_left; focus (intro wS hSw; (obtain ⟨_, a_0⟩ := hSw.1; obtain ⟨_, b_0⟩ := hSw.2.1; obtain ⟨_, c_0⟩ := hSw.2.2.1; obtain ⟨_, d_0⟩ := hSw.2.2.2.1); go_simp; try with_reducible rfl; done)) | (refine wpAnyH_take (i := 11) (v := undef) nth11 (by kernel_rfl) (by kernel_rfl) (by kernel_rfl) (fun _ _ _ h => h) (Or.inr ⟨by rfl, rfl⟩) hHeld ?_)
              (try simp only [Act.put]); (try simp only [List.setIfInBounds_toArray]); (try simp only [List.set_cons_succ]); (try simp only [List.set_cons_zero])
              first | (refine wpAnyH_take (i := 12) (v := ?_) nth12 (by kernel_rfl) (by kernel_rfl) (by kernel_rfl) (fun _ _ _ h => h) (Or.inl ⟨by rfl, ?_⟩) hHeld ?_; rotate_left; focus (intro wS hSw; (obtain ⟨_, a_0⟩ := hSw.1; obtain ⟨_, b_0⟩ := hSw.2.1; obtain ⟨_, c_0⟩ := hSw.2.2.1; obtain ⟨_, d_0⟩ := hSw.2.2.2.1); go_simp; try with_reducible rfl; done)) | (refine wpAnyH_take (i := 12) (v := undef) nth12 (by kernel_rfl) (by kernel_rfl) (by kernel_rfl) (fun _ _ _ h => h) (Or.inr ⟨by rfl, rfl⟩) hHeld ?_)
              (try simp only [Act.put]); (try simp only [List.setIfInBounds_toArray]); (try simp only [List.set_cons_succ]); (try simp only [List.set_cons_zero])
              first | (refine wpAnyH_take (i := 13) (v := ?_) nth13 (by kernel_rfl) (by kernel_rfl) (by kernel_rfl) (fun _ _ _ h => h) (Or.inl ⟨by rfl, ?_⟩) hHeld ?_; rotate_left; focus (intro wS hSw; (obtain ⟨_, a_0⟩ := hSw.1; obtain ⟨_, b_0⟩ := hSw.2.1; obtain ⟨_, c_0⟩ := hSw.2.2.1; obtain ⟨_, d_0⟩ := hSw.2.2.2.1); go_simp; try with_reducible rfl; done)) | (refine wpAnyH_take (i := 13) (v := undef) nth13 (by kernel_rfl) (by kernel_rfl) (by kernel_rfl) (fun _ _ _ h => h) (Or.inr ⟨by rfl, rfl⟩) hHeld ?_)
              (try simp only [Act.put]); (try simp only [List.setIfInBounds_toArray]); (try simp only [List.set_cons_succ]); (try simp only [List.set_cons_zero])
              first | (refine wpAnyH_take (i := 14) (v := ?_) nth14 (by kernel_rfl) (by kernel_rfl) (by kernel_rfl) (fun _ _ _ h => h) (Or.inl ⟨by rfl, ?_⟩) hHeld ?_; rotate_left; focus (intro wS hSw; (obtain ⟨_, a_0⟩ := hSw.1; obtain ⟨_, b_0⟩ := hSw.2.1; obtain ⟨_, c_0⟩ := hSw.2.2.1; obtain ⟨_, d_0⟩ := hSw.2.2.2.1); go_simp; try with_reducible rfl; done)) | (refine wpAnyH_take (i := 14) (v := undef) nth14 (by kernel_rfl) (by kernel_rfl) (by kernel_rfl) (fun _ _ _ h => h) (Or.inr ⟨by rfl, rfl⟩) hHeld ?_)
              (try simp only [Act.put]); (try simp only [List.setIfInBounds_toArray]); (try simp only [List.set_cons_succ]); (try simp only [List.set_cons_zero])
              first | (refine wpAnyH_take (i := 15) (v := ?_) nth15 (by kernel_rfl) (by kernel_rfl) (by kernel_rfl) (fun _ _ _ h => h) (Or.inl ⟨by rfl, ?_⟩) hHeld ?_; rotate_left; focus (intro wS hSw; (obtain ⟨_, a_0⟩ := hSw.1; obtain ⟨_, b_0⟩ := hSw.2.1; obtain ⟨_, c_0⟩ := hSw.2.2.1; obtain ⟨_, d_0⟩ := hSw.2.2.2.1); go_simp; try with_reducible rfl; done)) | (refine wpAnyH_take (i := 15) (v := undef) nth15 (by kernel_rfl) (by kernel_rfl) (by kernel_rfl) (fun _ _ _ h => h) (Or.inr ⟨by rfl, rfl⟩) hHeld ?_)
              (try simp only [Act.put]); (try simp only [List.setIfInBounds_toArray]); (try simp only [List.set_cons_succ]); (try simp only [List.set_cons_zero])
              first | (refine wpAnyH_take (i := 16) (v := ?_) nth16 (by kernel_rfl) (by kernel_rfl) (by kernel_rfl) (fun _ _ _ h => h) (Or.inl ⟨by rfl, ?_⟩) hHeld ?_; rotate_left; focus (intro wS hSw; (obtain ⟨_, a_0⟩ := hSw.1; obtain ⟨_, b_0⟩ := hSw.2.1; obtain ⟨_, c_0⟩ := hSw.2.2.1; obtain ⟨_, d_0⟩ := hSw.2.2.2.1); go_simp; try with_reducible rfl; done)) | (refine wpAnyH_take (i := 16) (v := undef) nth16 (by kernel_rfl) (by kernel_rfl) (by kernel_rfl) (fun _ _ _ h => h) (Or.inr ⟨by rfl, rfl⟩) hHeld ?_)
              (try simp only [Act.put]); (try simp only [List.setIfInBounds_toArray]); (try simp only [List.set_cons_succ]); (try simp only [List.set_cons_zero])
              first | (refine wpAnyH_take (i := 17) (v := ?_) nth17 (by kernel_rfl) (by kernel_rfl) (by kernel_rfl) (fun _ _ _ h => h) (Or.inl ⟨by rfl, ?_⟩) hHeld ?_; rotate_left; focus (intro wS hSw; (obtain ⟨_, a_0⟩ := hSw.1; obtain ⟨_, b_0⟩ := hSw.2.1; obtain ⟨_, c_0⟩ := hSw.2.2.1; obtain ⟨_, d_0⟩ := hSw.2.2.2.1); go_simp; try with_reducible rfl; done)) | (refine wpAnyH_take (i := 17) (v := undef) nth17 (by kernel_rfl) (by kernel_rfl) (by kernel_rfl) (fun _ _ _ h => h) (Or.inr ⟨by rfl, rfl⟩) hHeld ?_)
              (try simp only [Act.put]); (try simp only [List.setIfInBounds_toArray]); (try simp only [List.set_cons_succ]); (try simp only [List.set_cons_zero])
              first | (refine wpAnyH_take (i := 18) (v := ?_) nth18 (by kernel_rfl) (by kernel_rfl) (by kernel_rfl) (fun _ _ _ h => h) (Or.inl ⟨by rfl, ?_⟩) hHeld ?_; rotate_left; focus (intro wS hSw; (obtain ⟨_, a_0⟩ := hSw.1; obtain ⟨_, b_0⟩ := hSw.2.1; obtain ⟨_, c_0⟩ := hSw.2.2.1; obtain ⟨_, d_0⟩ := hSw.2.2.2.1); go_simp; try with_reducible rfl; done)) | (refine wpAnyH_take (i := 18) (v := undef) nth18 (by kernel_rfl) (by kernel_rfl) (by kernel_rfl) (fun _ _ _ h => h) (Or.inr ⟨by rfl, rfl⟩) hHeld ?_)
              (try simp only [Act.put]); (try simp only [List.setIfInBounds_toArray]); (try simp only [List.set_cons_succ]); (try simp only [List.set_cons_zero])
              first | (refine wpAnyH_take (i := 19) (v := ?_) nth19 (by kernel_rfl) (by kernel_rfl) (by kernel_rfl) (fun _ _ _ h => h) (Or.inl ⟨by rfl, ?_⟩) hHeld ?_; rotate_left; focus (intro wS hSw; (obtain ⟨_, a_0⟩ := hSw.1; obtain ⟨_, b_0⟩ := hSw.2.1; obtain ⟨_, c_0⟩ := hSw.2.2.1; obtain ⟨_, d_0⟩ := hSw.2.2.2.1); go_simp; try with_reducible rfl; done)) | (refine wpAnyH_take (i := 19) (v := undef) nth19 (by kernel_rfl) (by kernel_rfl) (by kernel_rfl) (fun _ _ _ h => h) (Or.inr ⟨by rfl, rfl⟩) hHeld ?_)
              (try simp only [Act.put]); (try simp only [List.setIfInBounds_toArray]); (try simp only [List.set_cons_succ]); (try simp only [List.set_cons_zero])
              first | (refine wpAnyH_take (i := 20) (v := ?_) nth20 (by kernel_rfl) (by kernel_rfl) (by kernel_rfl) (fun _ _ _ h => h) (Or.inl ⟨by rfl, ?_⟩) hHeld ?_; rotate_left; focus (intro wS hSw; (obtain ⟨_, a_0⟩ := hSw.1; obtain ⟨_, b_0⟩ := hSw.2.1; obtain ⟨_, c_0⟩ := hSw.2.2.1; obtain ⟨_, d_0⟩ := hSw.2.2.2.1); go_simp; try with_reducible rfl; done)) | (refine wpAnyH_take (i := 20) (v := undef) nth20 (by kernel_rfl) (by kernel_rfl) (by kernel_rfl) (fun _ _ _ h => h) (Or.inr ⟨by rfl, rfl⟩) hHeld ?_)
              (try simp only [Act.put]); (try simp only [List.setIfInBounds_toArray]); (try simp only [List.set_cons_succ]); (try simp only [List.set_cons_zero])
              first | (refine wpAnyH_take (i := 21) (v := ?_) nth21 (by kernel_rfl) (by kernel_rfl) (by kernel_rfl) (fun _ _ _ h => h) (Or.inl ⟨by rfl, ?_⟩) hHeld ?_; rotate_left; focus (intro wS hSw; (obtain ⟨_, a_0⟩ := hSw.1; obtain ⟨_, b_0⟩ := hSw.2.1; obtain ⟨_, c_0⟩ := hSw.2.2.1; obtain ⟨_, d_0⟩ := hSw.2.2.2.1); go_simp; try with_reducible rfl; done)) | (refine wpAnyH_take (i := 21) (v := undef) nth21 (by kernel_rfl) (by kernel_rfl) (by kernel_rfl) (fun _ _ _ h => h) (Or.inr ⟨by rfl, rfl⟩) hHeld ?_)
              (try simp only [Act.put]); (try simp only [List.setIfInBounds_toArray]); (try simp only [List.set_cons_succ]); (try simp only [List.set_cons_zero])
              first | (refine wpAnyH_take (i := 22) (v := ?_) nth22 (by kernel_rfl) (by kernel_rfl) (by kernel_rfl) (fun _ _ _ h => h) (Or.inl ⟨by rfl, ?_⟩) hHeld ?_; rotate_left; focus (intro wS hSw; (obtain ⟨_, a_0⟩ := hSw.1; obtain ⟨_, b_0⟩ := hSw.2.1; obtain ⟨_, c_0⟩ := hSw.2.2.1; obtain ⟨_, d_0⟩ := hSw.2.2.2.1); go_simp; try with_reducible rfl; done)) | (refine wpAnyH_take (i := 22) (v := undef) nth22 (by kernel_rfl) (by kernel_rfl) (by kernel_rfl) (fun _ _ _ h => h) (Or.inr ⟨by rfl, rfl⟩) hHeld ?_)
              (try simp only [Act.put]); (try simp only [List.setIfInBounds_toArray]); (try simp only [List.set_cons_succ]); (try simp only [List.set_cons_zero])
              refine wpAnyH_ready (rs := [23]) (by kernel_rfl) (by simp) ?_
              refine AllReadyH.cons nth23 (fun K hK => ?_) AllReadyH.nil
              go_simp
              (go_at_call 10; refine (Q.out _ hHeld.2.2.2.2).mono ?_; rintro e w' ⟨rfl, hb⟩)
              refine hK.out _ _ (⟨hHeld.1.kept hb, hHeld.2.1.kept hb, hHeld.2.2.1.kept hb, hHeld.2.2.2.1.kept hb, Bel.then hHeld.2.2.2.2 hb⟩) (fun hHeld => ?_)
              clear hK K
              (try simp only [Act.put]); (try simp only [List.setIfInBounds_toArray]); (try simp only [List.set_cons_succ]); (try simp only [List.set_cons_zero])
              first | (refine wpAnyH_take (i := 24) (v := ?_) nth24 (by kernel_rfl) (by kernel_rfl) (by kernel_rfl) (fun _ _ _ h => h) (Or.inl ⟨by rfl, ?_⟩) hHeld ?_; rotate_left; focus (intro wS hSw; (obtain ⟨_, a_0⟩ := hSw.1; obtain ⟨_, b_0⟩ := hSw.2.1; obtain ⟨_, c_0⟩ := hSw.2.2.1; obtain ⟨_, d_0⟩ := hSw.2.2.2.1); go_simp; try with_reducible rfl; done)) | (refine wpAnyH_take (i := 24) (v := undef) nth24 (by kernel_rfl) (by kernel_rfl) (by kernel_rfl) (fun _ _ _ h => h) (Or.inr ⟨by rfl, rfl⟩) hHeld ?_)
              (try simp only [Act.put]); (try simp only [List.setIfInBounds_toArray]); (try simp only [List.set_cons_succ]); (try simp only [List.set_cons_zero])
              first | (refine wpAnyH_take (i := 25) (v := ?_) nth25 (by kernel_rfl) (by kernel_rfl) (by kernel_rfl) (fun _ _ _ h => h) (Or.inl ⟨by rfl, ?_⟩) hHeld ?_; rotate_left; focus (intro wS hSw; (obtain ⟨_, a_0⟩ := hSw.1; obtain ⟨_, b_0⟩ := hSw.2.1; obtain ⟨_, c_0⟩ := hSw.2.2.1; obtain ⟨_, d_0⟩ := hSw.2.2.2.1); go_simp; try with_reducible rfl; done)) | (refine wpAnyH_take (i := 25) (v := undef) nth25 (by kernel_rfl) (by kernel_rfl) (by kernel_rfl) (fun _ _ _ h => h) (Or.inr ⟨by rfl, rfl⟩) hHeld ?_)
              (try simp only [Act.put]); (try simp only [List.setIfInBounds_toArray]); (try simp only [List.set_cons_succ]); (try simp only [List.set_cons_zero])
              refine wpAnyH_done (by kernel_rfl) ?_ _
              replace HB := hide hHeld.2.2.2.2
              clear hHeld Ha Hb Hc Hd Q
              go_wp2_with fail
              go_roundw
              case rel => exact ⟨i + 1, i, by omega, by go_num, rfl, HE2, HB⟩
              case measure => simp [intOf]; omega
            | false =>
              have HE2 := hide (HF.out rfl)
              clear HT HF
              go_upto_region 5 with (fail)
              refine wp_region_held_drew (S := (fun w' => HeadAt w' b (off + i) (some ⟨pb, poff, none⟩) pn pc ∧ HeadAt w' b (off + j) (some ⟨qb, qoff, none⟩) qn qc ∧ HeadAt w' pb poff rA rn rc ∧ HeadAt w' qb qoff sA sn sc ∧ Below w.heap.size w w')) (by kernel_rfl) (⟨Ha.out.kept (Below.refl _ _).drew, Hb.out.kept (Below.refl _ _).drew, Hc.out.kept (Below.refl _ _).drew, Hd.out.kept (Below.refl _ _).drew, HB.out.drew⟩) (fun hHeld => ?_)
              first | (refine wpAnyH_take (i := 0) (v := ?_) nth0 (by kernel_rfl) (by kernel_rfl) (by kernel_rfl) (fun _ _ _ h => h) (Or.inl ⟨by rfl, ?_⟩) hHeld ?_; rotate_left; focus (intro wS hSw; (obtain ⟨_, a_0⟩ := hSw.1; obtain ⟨_, b_0⟩ := hSw.2.1; obtain ⟨_, c_0⟩ := hSw.2.2.1; obtain ⟨_, d_0⟩ := hSw.2.2.2.1); go_simp; try with_reducible rfl; done)) | (refine wpAnyH_take (i := 0) (v := undef) nth0 (by kernel_rfl) (by kernel_rfl) (by kernel_rfl) (fun _ _ _ h => h) (Or.inr ⟨by rfl, rfl⟩) hHeld ?_)
              (try simp only [Act.put]); (try simp only [List.setIfInBounds_toArray]); (try simp only [List.set_cons_succ]); (try simp only [List.set_cons_zero])
              first | (refine wpAnyH_take (i := 1) (v := ?_) nth1 (by kernel_rfl) (by kernel_rfl) (by kernel_rfl) (fun _ _ _ h => h) (Or.inl ⟨by rfl, ?_⟩) hHeld ?_; rotate_left; focus (intro wS hSw; (obtain ⟨_, a_0⟩ := hSw.1; obtain ⟨_, b_0⟩ := hSw.2.1; obtain ⟨_, c_0⟩ := hSw.2.2.1; obtain ⟨_, d_0⟩ := hSw.2.2.2.1); go_simp; try with_reducible rfl; done)) | (refine wpAnyH_take (i := 1) (v := undef) nth1 (by kernel_rfl) (by kernel_rfl) (by kernel_rfl) (fun _ _ _ h => h) (Or.inr ⟨by rfl, rfl⟩) hHeld ?_)
              (try simp only [Act.put]); (try simp only [List.setIfInBounds_toArray]); (try simp only [List.set_cons_succ]); (try simp only [List.set_cons_zero])
              first | (refine wpAnyH_take (i := 2) (v := ?_) nth2 (by kernel_rfl) (by kernel_rfl) (by kernel_rfl) (fun _ _ _ h => h) (Or.inl ⟨by rfl, ?_⟩) hHeld ?_; rotate_left; focus (intro wS hSw; (obtain ⟨_, a_0⟩ := hSw.1; obtain ⟨_, b_0⟩ := hSw.2.1; obtain ⟨_, c_0⟩ := hSw.2.2.1; obtain ⟨_, d_0⟩ := hSw.2.2.2.1); go_simp; try with_reducible rfl; done)) | (refine wpAnyH_take (i := 2) (v := undef) nth2 (by kernel_rfl) (by kernel_rfl) (by kernel_rfl) (fun _ _ _ h => h) (Or.inr ⟨by rfl, rfl⟩) hHeld ?_)
              (try simp only [Act.put]); (try simp only [List.setIfInBounds_toArray]); (try simp only [List.set_cons_succ]); (try simp only [List.set_cons_zero])
              first | (refine wpAnyH_take (i := 3) (v := ?_) nth3 (by kernel_rfl) (by kernel_rfl) (by kernel_rfl) (fun _ _ _ h => h) (Or.inl ⟨by rfl, ?_⟩) hHeld ?_; rotate_left; focus (intro wS hSw; (obtain ⟨_, a_0⟩ := hSw.1; obtain ⟨_, b_0⟩ := hSw.2.1; obtain ⟨_, c_0⟩ := hSw.2.2.1; obtain ⟨_, d_0⟩ := hSw.2.2.2.1); go_simp; try with_reducible rfl; done)) | (refine wpAnyH_take (i := 3) (v := undef) nth3 (by kernel_rfl) (by kernel_rfl) (by kernel_rfl) (fun _ _ _ h => h) (Or.inr ⟨by rfl, rfl⟩) hHeld ?_)
              (try simp only [Act.put]); (try simp only [List.setIfInBounds_toArray]); (try simp only [List.set_cons_succ]); (try simp only [List.set_cons_zero])
              first | (refine wpAnyH_take (i := 4) (v := ?_) nth4 (by kernel_rfl) (by kernel_rfl) (by kernel_rfl) (fun _ _ _ h => h) (Or.inl ⟨by rfl, ?_⟩) hHeld ?_; rotate_left; focus (intro wS hSw; (obtain ⟨_, a_0⟩ := hSw.1; obtain ⟨_, b_0⟩ := hSw.2.1; obtain ⟨_, c_0⟩ := hSw.2.2.1; obtain ⟨_, d_0⟩ := hSw.2.2.2.1); go_simp; try with_reducible rfl; done)) | (refine wpAnyH_take (i := 4) (v := undef) nth4 (by kernel_rfl) (by kernel_rfl) (by kernel_rfl) (fun _ _ _ h => h) (Or.inr ⟨by rfl, rfl⟩) hHeld ?_)
              (try simp only [Act.put]); (try simp only [List.setIfInBounds_toArray]); (try simp only [List.set_cons_succ]); (try simp only [List.set_cons_zero])
              first | (refine wpAnyH_take (i := 5) (v := ?_) nth5 (by kernel_rfl) (by kernel_rfl) (by kernel_rfl) (fun _ _ _ h => h) (Or.inl ⟨by rfl, ?_⟩) hHeld ?_; rotate_left; focus (intro wS hSw; (obtain ⟨_, a_0⟩ := hSw.1; obtain ⟨_, b_0⟩ := hSw.2.1; obtain ⟨_, c_0⟩ := hSw.2.2.1; obtain ⟨_, d_0⟩ := hSw.2.2.2.1); go_simp; try with_reducible rfl; done)) | (refine wpAnyH_take (i := 5) (v := undef) nth5 (by kernel_rfl) (by kernel_rfl) (by kernel_rfl) (fun _ _ _ h => h) (Or.inr ⟨by rfl, rfl⟩) hHeld ?_)
              (try simp only [Act.put]); (try simp only [List.setIfInBounds_toArray]); (try simp only [List.set_cons_succ]); (try simp only [List.set_cons_zero])
              first | (refine wpAnyH_take (i := 6) (v := ?_) nth6 (by kernel_rfl) (by kernel_rfl) (by kernel_rfl) (fun _ _ _ h => h) (Or.inl ⟨by rfl, ?_⟩) hHeld ?_; rotate_left; focus (intro wS hSw; (obtain ⟨_, a_0⟩ := hSw.1; obtain ⟨_, b_0⟩ := hSw.2.1; obtain ⟨_, c_0⟩ := hSw.2.2.1; obtain ⟨_, d_0⟩ := hSw.2.2.2.1); go_simp; try with_reducible rfl; done)) | (refine wpAnyH_take (i := 6) (v := undef) nth6 (by kernel_rfl) (by kernel_rfl) (by kernel_rfl) (fun _ _ _ h => h) (Or.inr ⟨by rfl, rfl⟩) hHeld ?_)
              (try simp only [Act.put]); (try simp only [List.setIfInBounds_toArray]); (try simp only [List.set_cons_succ]); (try simp only [List.set_cons_zero])
              first | (refine wpAnyH_take (i := 7) (v := ?_) nth7 (by kernel_rfl) (by kernel_rfl) (by kernel_rfl) (fun _ _ _ h => h) (Or.inl ⟨by rfl, ?_⟩) hHeld ?_; rotate_left; focus (intro wS hSw; (obtain ⟨_, a_0⟩ := hSw.1; obtain ⟨_, b_0⟩ := hSw.2.1; obtain ⟨_, c_0⟩ := hSw.2.2.1; obtain ⟨_, d_0⟩ := hSw.2.2.2.1); go_simp; try with_reducible rfl; done)) | (refine wpAnyH_take (i := 7) (v := undef) nth7 (by kernel_rfl) (by kernel_rfl) (by kernel_rfl) (fun _ _ _ h => h) (Or.inr ⟨by rfl, rfl⟩) hHeld ?_)
              (try simp only [Act.put]); (try simp only [List.setIfInBounds_toArray]); (try simp only [List.set_cons_succ]); (try simp only [List.set_cons_zero])
              first | (refine wpAnyH_take (i := 8) (v := ?_) nth8 (by kernel_rfl) (by kernel_rfl) (by kernel_rfl) (fun _ _ _ h => h) (Or.inl ⟨by rfl, ?_⟩) hHeld ?_; rotate_left; focus (intro wS hSw; (obtain ⟨_, a_0⟩ := hSw.1; obtain ⟨_, b_0⟩ := hSw.2.1; obtain ⟨_, c_0⟩ := hSw.2.2.1; obtain ⟨_, d_0⟩ := hSw.2.2.2.1); go_simp; try with_reducible rfl; done)) | (refine wpAnyH_take (i := 8) (v := undef) nth8 (by kernel_rfl) (by kernel_rfl) (by kernel_rfl) (fun _ _ _ h => h) (Or.inr ⟨by rfl, rfl⟩) hHeld ?_)
              (try simp only [Act.put]); (try simp only [List.setIfInBounds_toArray]); (try simp only [List.set_cons_succ]); (try simp only [List.set_cons_zero])
              first | (refine wpAnyH_take (i := 9) (v := ?_) nth9 (by kernel_rfl) (by kernel_rfl) (by kernel_rfl) (fun _ _ _ h => h) (Or.inl ⟨by rfl, ?_⟩) hHeld ?_; rotate_left; focus (intro wS hSw; (obtain ⟨_, a_0⟩ := hSw.1; obtain ⟨_, b_0⟩ := hSw.2.1; obtain ⟨_, c_0⟩ := hSw.2.2.1; obtain ⟨_, d_0⟩ := hSw.2.2.2.1); go_simp; try with_reducible rfl; done)) | (refine wpAnyH_take (i := 9) (v := undef) nth9 (by kernel_rfl) (by kernel_rfl) (by kernel_rfl) (fun _ _ _ h => h) (Or.inr ⟨by rfl, rfl⟩) hHeld ?_)
              (try simp only [Act.put]); (try simp only [List.setIfInBounds_toArray]); (try simp only [List.set_cons_succ]); (try simp only [List.set_cons_zero])
              first | (refine wpAnyH_take (i := 10) (v := ?_) nth10 (by kernel_rfl) (by kernel_rfl) (by kernel_rfl) (fun _ _ _ h => h) (Or.inl ⟨by rfl, ?_⟩) hHeld ?_; rotate_left; focus (intro wS hSw; (obtain ⟨_, a_0⟩ := hSw.1; obtain ⟨_, b_0⟩ := hSw.2.1; obtain ⟨_, c_0⟩ := hSw.2.2.1; obtain ⟨_, d_0⟩ := hSw.2.2.2.1); go_simp; try with_reducible rfl; done)) | (refine wpAnyH_take (i := 10) (v := undef) nth10 (by kernel_rfl) (by kernel_rfl) (by kernel_rfl) (fun _ _ _ h => h) (Or.inr ⟨by rfl, rfl⟩) hHeld ?_)
              (try simp only [Act.put]); (try simp only [List.setIfInBounds_toArray]); (try simp only [List.set_cons_succ]); (try simp only [List.set_cons_zero])
              first | (refine wpAnyH_take (i := 11) (v := ?_) nth11 (by kernel_rfl) (by kernel_rfl) (by kernel_rfl) (fun _ _ _ h => h) (Or.inl ⟨by rfl, ?_⟩) hHeld ?_; rotate_left; focus (intro wS hSw; (obtain ⟨_, a_0⟩ := hSw.1; obtain ⟨_, b_0⟩ := hSw.2.1; obtain ⟨_, c_0⟩ := hSw.2.2.1; obtain ⟨_, d_0⟩ := hSw.2.2.2.1); go_simp; try with_reducible rfl; done)) | (refine wpAnyH_take (i := 11) (v := undef) nth11 (by kernel_rfl) (by kernel_rfl) (by kernel_rfl) (fun _ _ _ h => h) (Or.inr ⟨by rfl, rfl⟩) hHeld ?_)
              (try simp only [Act.put]); (try simp only [List.setIfInBounds_toArray]); (try simp only [List.set_cons_succ]); (try simp only [List.set_cons_zero])
              first | (refine wpAnyH_take (i := 12) (v := ?_) nth12 (by kernel_rfl) (by kernel_rfl) (by kernel_rfl) (fun _ _ _ h => h) (Or.inl ⟨by rfl, ?_⟩) hHeld ?_; rotate_left; focus (intro wS hSw; (obtain ⟨_, a_0⟩ := hSw.1; obtain ⟨_, b_0⟩ := hSw.2.1; obtain ⟨_, c_0⟩ := hSw.2.2.1; obtain ⟨_, d_0⟩ := hSw.2.2.2.1); go_simp; try with_reducible rfl; done)) | (refine wpAnyH_take (i := 12) (v := undef) nth12 (by kernel_rfl) (by kernel_rfl) (by kernel_rfl) (fun _ _ _ h => h) (Or.inr ⟨by rfl, rfl⟩) hHeld ?_)
              (try simp only [Act.put]); (try simp only [List.setIfInBounds_toArray]); (try simp only [List.set_cons_succ]); (try simp only [List.set_cons_zero])
              first | (refine wpAnyH_take (i := 13) (v := ?_) nth13 (by kernel_rfl) (by kernel_rfl) (by kernel_rfl) (fun _ _ _ h => h) (Or.inl ⟨by rfl, ?_⟩) hHeld ?_; rotate_left; focus (intro wS hSw; (obtain ⟨_, a_0⟩ := hSw.1; obtain ⟨_, b_0⟩ := hSw.2.1; obtain ⟨_, c_0⟩ := hSw.2.2.1; obtain ⟨_, d_0⟩ := hSw.2.2.2.1); go_simp; try with_reducible rfl; done)) | (refine wpAnyH_take (i := 13) (v := undef) nth13 (by kernel_rfl) (by kernel_rfl) (by kernel_rfl) (fun _ _ _ h => h) (Or.inr ⟨by rfl, rfl⟩) hHeld ?_)
              (try simp only [Act.put]); (try simp only [List.setIfInBounds_toArray]); (try simp only [List.set_cons_succ]); (try simp only [List.set_cons_zero])
              first | (refine wpAnyH_take (i := 14) (v := ?_) nth14 (by kernel_rfl) (by kernel_rfl) (by kernel_rfl) (fun _ _ _ h => h) (Or.inl ⟨by rfl, ?_⟩) hHeld ?_; rotate_left; focus (intro wS hSw; (obtain ⟨_, a_0⟩ := hSw.1; obtain ⟨_, b_0⟩ := hSw.2.1; obtain ⟨_, c_0⟩ := hSw.2.2.1; obtain ⟨_, d_0⟩ := hSw.2.2.2.1); go_simp; try with_reducible rfl; done)) | (refine wpAnyH_take (i := 14) (v := undef) nth14 (by kernel_rfl) (by kernel_rfl) (by kernel_rfl) (fun _ _ _ h => h) (Or.inr ⟨by rfl, rfl⟩) hHeld ?_)
              (try simp only [Act.put]); (try simp only [List.setIfInBounds_toArray]); (try simp only [List.set_cons_succ]); (try simp only [List.set_cons_zero])
              first | (refine wpAnyH_take (i := 15) (v := ?_) nth15 (by kernel_rfl) (by kernel_rfl) (by kernel_rfl) (fun _ _ _ h => h) (Or.inl ⟨by rfl, ?_⟩) hHeld ?_; rotate_left; focus (intro wS hSw; (obtain ⟨_, a_0⟩ := hSw.1; obtain ⟨_, b_0⟩ := hSw.2.1; obtain ⟨_, c_0⟩ := hSw.2.2.1; obtain ⟨_, d_0⟩ := hSw.2.2.2.1); go_simp; try with_reducible rfl; done)) | (refine wpAnyH_take (i := 15) (v := undef) nth15 (by kernel_rfl) (by kernel_rfl) (by kernel_rfl) (fun _ _ _ h => h) (Or.inr ⟨by rfl, rfl⟩) hHeld ?_)
              (try simp only [Act.put]); (try simp only [List.setIfInBounds_toArray]); (try simp only [List.set_cons_succ]); (try simp only [List.set_cons_zero])
              first | (refine wpAnyH_take (i := 16) (v := ?_) nth16 (by kernel_rfl) (by kernel_rfl) (by kernel_rfl) (fun _ _ _ h => h) (Or.inl ⟨by rfl, ?_⟩) hHeld ?_; rotate_left; focus (intro wS hSw; (obtain ⟨_, a_0⟩ := hSw.1; obtain ⟨_, b_0⟩ := hSw.2.1; obtain ⟨_, c_0⟩ := hSw.2.2.1; obtain ⟨_, d_0⟩ := hSw.2.2.2.1); go_simp; try with_reducible rfl; done)) | (refine wpAnyH_take (i := 16) (v := undef) nth16 (by kernel_rfl) (by kernel_rfl) (by kernel_rfl) (fun _ _ _ h => h) (Or.inr ⟨by rfl, rfl⟩) hHeld ?_)
              (try simp only [Act.put]); (try simp only [List.setIfInBounds_toArray]); (try simp only [List.set_cons_succ]); (try simp only [List.set_cons_zero])
              first | (refine wpAnyH_take (i := 17) (v := ?_) nth17 (by kernel_rfl) (by kernel_rfl) (by kernel_rfl) (fun _ _ _ h => h) (Or.inl ⟨by rfl, ?_⟩) hHeld ?_; rotate_left; focus (intro wS hSw; (obtain ⟨_, a_0⟩ := hSw.1; obtain ⟨_, b_0⟩ := hSw.2.1; obtain ⟨_, c_0⟩ := hSw.2.2.1; obtain ⟨_, d_0⟩ := hSw.2.2.2.1); go_simp; try with_reducible rfl; done)) | (refine wpAnyH_take (i := 17) (v := undef) nth17 (by kernel_rfl) (by kernel_rfl) (by kernel_rfl) (fun _ _ _ h => h) (Or.inr ⟨by rfl, rfl⟩) hHeld ?_)
              (try simp only [Act.put]); (try simp only [List.setIfInBounds_toArray]); (try simp only [List.set_cons_succ]); (try simp only [List.set_cons_zero])
              first | (refine wpAnyH_take (i := 18) (v := ?_) nth18 (by kernel_rfl) (by kernel_rfl) (by kernel_rfl) (fun _ _ _ h => h) (Or.inl ⟨by rfl, ?_⟩) hHeld ?_; rotate_left; focus (intro wS hSw; (obtain ⟨_, a_0⟩ := hSw.1; obtain ⟨_, b_0⟩ := hSw.2.1; obtain ⟨_, c_0⟩ := hSw.2.2.1; obtain ⟨_, d_0⟩ := hSw.2.2.2.1); go_simp; try with_reducible rfl; done)) | (refine wpAnyH_take (i := 18) (v := undef) nth18 (by kernel_rfl) (by kernel_rfl) (by kernel_rfl) (fun _ _ _ h => h) (Or.inr ⟨by rfl, rfl⟩) hHeld ?_)
              (try simp only [Act.put]); (try simp only [List.setIfInBounds_toArray]); (try simp only [List.set_cons_succ]); (try simp only [List.set_cons_zero])
              first | (refine wpAnyH_take (i := 19) (v := ?_) nth19 (by kernel_rfl) (by kernel_rfl) (by kernel_rfl) (fun _ _ _ h => h) (Or.inl ⟨by rfl, ?_⟩) hHeld ?_; rotate_left; focus (intro wS hSw; (obtain ⟨_, a_0⟩ := hSw.1; obtain ⟨_, b_0⟩ := hSw.2.1; obtain ⟨_, c_0⟩ := hSw.2.2.1; obtain ⟨_, d_0⟩ := hSw.2.2.2.1); go_simp; try with_reducible rfl; done)) | (refine wpAnyH_take (i := 19) (v := undef) nth19 (by kernel_rfl) (by kernel_rfl) (by kernel_rfl) (fun _ _ _ h => h) (Or.inr ⟨by rfl, rfl⟩) hHeld ?_)
              (try simp only [Act.put]); (try simp only [List.setIfInBounds_toArray]); (try simp only [List.set_cons_succ]); (try simp only [List.set_cons_zero])
              first | (refine wpAnyH_take (i := 20) (v := ?_) nth20 (by kernel_rfl) (by kernel_rfl) (by kernel_rfl) (fun _ _ _ h => h) (Or.inl ⟨by rfl, ?_⟩) hHeld ?_; rotate_left; focus (intro wS hSw; (obtain ⟨_, a_0⟩ := hSw.1; obtain ⟨_, b_0⟩ := hSw.2.1; obtain ⟨_, c_0⟩ := hSw.2.2.1; obtain ⟨_, d_0⟩ := hSw.2.2.2.1); go_simp; try with_reducible rfl; done)) | (refine wpAnyH_take (i := 20) (v := undef) nth20 (by kernel_rfl) (by kernel_rfl) (by kernel_rfl) (fun _ _ _ h => h) (Or.inr ⟨by rfl, rfl⟩) hHeld ?_)
              (try simp only [Act.put]); (try simp only [List.setIfInBounds_toArray]); (try simp only [List.set_cons_succ]); (try simp only [List.set_cons_zero])
              first | (refine wpAnyH_take (i := 21) (v := ?_) nth21 (by kernel_rfl) (by kernel_rfl) (by kernel_rfl) (fun _ _ _ h => h) (Or.inl ⟨by rfl, ?_⟩) hHeld ?_; rotate_left; focus (intro wS hSw; (obtain ⟨_, a_0⟩ := hSw.1; obtain ⟨_, b_0⟩ := hSw.2.1; obtain ⟨_, c_0⟩ := hSw.2.2.1; obtain ⟨_, d_0⟩ := hSw.2.2.2.1); go_simp; try with_reducible rfl; done)) | (refine wpAnyH_take (i := 21) (v := undef) nth21 (by kernel_rfl) (by kernel_rfl) (by kernel_rfl) (fun _ _ _ h => h) (Or.inr ⟨by rfl, rfl⟩) hHeld ?_)
              (try simp only [Act.put]); (try simp only [List.setIfInBounds_toArray]); (try simp only [List.set_cons_succ]); (try simp only [List.set_cons_zero])
              first | (refine wpAnyH_take (i := 22) (v := ?_) nth22 (by kernel_rfl) (by kernel_rfl) (by kernel_rfl) (fun _ _ _ h => h) (Or.inl ⟨by rfl, ?_⟩) hHeld ?_; rotate_left; focus (intro wS hSw; (obtain ⟨_, a_0⟩ := hSw.1; obtain ⟨_, b_0⟩ := hSw.2.1; obtain ⟨_, c_0⟩ := hSw.2.2.1; obtain ⟨_, d_0⟩ := hSw.2.2.2.1); go_simp; try with_reducible rfl; done)) | (refine wpAnyH_take (i := 22) (v := undef) nth22 (by kernel_rfl) (by kernel_rfl) (by kernel_rfl) (fun _ _ _ h => h) (Or.inr ⟨by rfl, rfl⟩) hHeld ?_)
              (try simp only [Act.put]); (try simp only [List.setIfInBounds_toArray]); (try simp only [List.set_cons_succ]); (try simp only [List.set_cons_zero])
              refine wpAnyH_ready (rs := [23]) (by kernel_rfl) (by simp) ?_
              refine AllReadyH.cons nth23 (fun K hK => ?_) AllReadyH.nil
              go_simp
              (go_at_call 10; refine (Q.out _ hHeld.2.2.2.2).mono ?_; rintro e w' ⟨rfl, hb⟩)
              refine hK.out _ _ (⟨hHeld.1.kept hb, hHeld.2.1.kept hb, hHeld.2.2.1.kept hb, hHeld.2.2.2.1.kept hb, Bel.then hHeld.2.2.2.2 hb⟩) (fun hHeld => ?_)
              clear hK K
              (try simp only [Act.put]); (try simp only [List.setIfInBounds_toArray]); (try simp only [List.set_cons_succ]); (try simp only [List.set_cons_zero])
              first | (refine wpAnyH_take (i := 24) (v := ?_) nth24 (by kernel_rfl) (by kernel_rfl) (by kernel_rfl) (fun _ _ _ h => h) (Or.inl ⟨by rfl, ?_⟩) hHeld ?_; rotate_left; focus (intro wS hSw; (obtain ⟨_, a_0⟩ := hSw.1; obtain ⟨_, b_0⟩ := hSw.2.1; obtain ⟨_, c_0⟩ := hSw.2.2.1; obtain ⟨_, d_0⟩ := hSw.2.2.2.1); go_simp; try with_reducible rfl; done)) | (refine wpAnyH_take (i := 24) (v := undef) nth24 (by kernel_rfl) (by kernel_rfl) (by kernel_rfl) (fun _ _ _ h => h) (Or.inr ⟨by rfl, rfl⟩) hHeld ?_)
              (try simp only [Act.put]); (try simp only [List.setIfInBounds_toArray]); (try simp only [List.set_cons_succ]); (try simp only [List.set_cons_zero])
              first | (refine wpAnyH_take (i := 25) (v := ?_) nth25 (by kernel_rfl) (by kernel_rfl) (by kernel_rfl) (fun _ _ _ h => h) (Or.inl ⟨by rfl, ?_⟩) hHeld ?_; rotate_left; focus (intro wS hSw; (obtain ⟨_, a_0⟩ := hSw.1; obtain ⟨_, b_0⟩ := hSw.2.1; obtain ⟨_, c_0⟩ := hSw.2.2.1; obtain ⟨_, d_0⟩ := hSw.2.2.2.1); go_simp; try with_reducible rfl; done)) | (refine wpAnyH_take (i := 25) (v := undef) nth25 (by kernel_rfl) (by kernel_rfl) (by kernel_rfl) (fun _ _ _ h => h) (Or.inr ⟨by rfl, rfl⟩) hHeld ?_)
              (try simp only [Act.put]); (try simp only [List.setIfInBounds_toArray]); (try simp only [List.set_cons_succ]); (try simp only [List.set_cons_zero])
              refine wpAnyH_done (by kernel_rfl) ?_ _
              replace HB := hide hHeld.2.2.2.2
              clear hHeld Ha Hb Hc Hd Q
              go_wp2_with fail
              go_roundw
              case rel => exact ⟨i + 1, j, by omega, by go_num, rfl, HE2, HB⟩
              case measure => simp [intOf]; omega
    · have hlti : ¬ (i : Int) < n := by omega
      obtain rfl : i = n := by omega
      have HE2 : Hid (LeastSt (ltR ks) L L.length v) := by show LeastSt _ _ _ _; rw [HL.out]; exact HE.out
      clear HE
      go_wp2_with fail
      go_ret
      exact ⟨v, rfl, HE2.out, HB.out⟩
end Go.Proofs.Ytahdkfenpflahaa
