/- The contract of the law's own examples. -/
import Derived.Test.YtahdkfenpflahaaSoI
import Derived.Test.YtahdkfenpflahaaSoL2
namespace Go.Proofs.Ytahdkfenpflahaa
set_option linter.unusedVariables false
open Go.ChangeShapes Go.WideShapes Go.ChangeAt Go.RowKit

def exA : List ValV := [⟨2, 1, { data := #[] }⟩, ⟨2, 5, { data := #[] }⟩]
def exB : List ValV := [⟨2, 0, { data := #[] }⟩, ⟨2, 4, { data := #[] }⟩]
def exK : List (Int × Bool) := [(1, true)]
theorem ex_ab : befB exA exB exK = true := by decide
theorem ex_ba : befB exB exA exK = false := by decide
theorem ex_sort : sortR exK [exB, exA] = [exA, exB] := by
  exact (mergeL_right (lt := fun r s => befB r s exK) (a := exB) (b := exA) (l := []) (r := []) ex_ab).trans (by rw [mergeL_nil])
abbrev litR (x y : Int) : Obj := .cells #[.int .i64 2, .int .i64 x, .string { data := #[] }, .int .i64 2, .int .i64 y, .string { data := #[] }] 44
theorem row_lit2 (w : World) (x y : Int) : RowAt (w.alloc (litR x y)) (w.alloc (litR x y)).heap.size (some ⟨w.heap.size, 0, none⟩) 2 2 [⟨2, x, { data := #[] }⟩, ⟨2, y, { data := #[] }⟩] :=
  sl_lit w _ _ rfl valCells_len rfl (by simp [maxLen])
abbrev litK : Obj := .cells #[.int .i64 1, .bool true] 41
theorem keys_lit (w : World) : KeysAt (w.alloc litK) (w.alloc litK).heap.size (some ⟨w.heap.size, 0, none⟩) 1 1 exK :=
  sl_lit w _ _ rfl (fun _ => rfl) rfl (by simp [maxLen])
theorem hs_lit (w : World) (ps : List HRow) (n : Nat) (hn : ps.length = n) (hm : n ≤ maxLen) (cs : Array Value) (hc : cs.toList = ps.map hdV) (h : ∀ p ∈ ps, RowAt w w.heap.size p.1.A p.1.n p.1.c p.2) : HsAt (w.alloc (.cells cs 23)) (some ⟨w.heap.size, 0, none⟩) n n ps :=
  ⟨sl_lit w _ _ hn (fun _ => rfl) (by rw [hdC_flat]; exact hc) hm, fun p hp => (h p hp).kept (Bel.one w _)⟩
set_option maxRecDepth 100000 in
set_option maxHeartbeats 4000000 in
theorem awake_c (w : World) : Calls Try.prog 9 #[] w fun e w' => e = .returned (.bool true) ∧ Below w.heap.size w w' := by
  have q1 : ∀ (n : Int) (W : World), Calls Try.prog 24 #[.int .i64 n] W fun e w' => e = .returned (.agg #[.int .i64 2, .int .i64 n, .string { data := #[] }]) ∧ Below W.heap.size W w' := fun n W => num_c n W
  have Q1 := hide q1
  clear q1
  go_enter Try.func9, Try.ntmps9
  go_upto_region 2 with (fail)
  have K := hide (keys_lit w)
  have HB := hide (Bel.one w litK)
  generalize w.alloc (.cells #[.int .i64 1, .bool true] 41) = w1 at *
  go_wp2_with fail
  refine (Q1.out _ _).mono ?_
  rintro e w2 ⟨rfl, hb⟩
  replace K := hide (K.out.kept hb)
  replace HB := hide (Bel.then HB.out hb)
  clear hb
  go_wp2_with fail
  refine (Q1.out _ _).mono ?_
  rintro e w3 ⟨rfl, hb⟩
  replace K := hide (K.out.kept hb)
  replace HB := hide (Bel.then HB.out hb)
  clear hb
  go_wp2_with fail
  have RA := hide (show RowAt (w3.alloc (litR 1 5)) (w3.alloc (litR 1 5)).heap.size (some ⟨w3.heap.size, 0, none⟩) 2 2 exA from row_lit2 w3 1 5)
  replace K := hide (K.out.kept (Bel.one w3 (litR 1 5)))
  replace HB := hide (Bel.alloc HB.out (litR 1 5))
  generalize w3.alloc (litR 1 5) = w4 at *
  generalize w3.heap.size = ga at *
  refine (Q1.out _ _).mono ?_
  rintro e w5 ⟨rfl, hb⟩
  replace RA := hide (RA.out.kept hb)
  replace K := hide (K.out.kept hb)
  replace HB := hide (Bel.then HB.out hb)
  clear hb
  go_wp2_with fail
  refine (Q1.out _ _).mono ?_
  rintro e w6 ⟨rfl, hb⟩
  replace RA := hide (RA.out.kept hb)
  replace K := hide (K.out.kept hb)
  replace HB := hide (Bel.then HB.out hb)
  clear hb
  go_upto_region 3 with (fail)
  have RB := hide (show RowAt (w6.alloc (litR 0 4)) (w6.alloc (litR 0 4)).heap.size (some ⟨w6.heap.size, 0, none⟩) 2 2 exB from row_lit2 w6 0 4)
  replace RA := hide (RA.out.kept (Bel.one w6 (litR 0 4)))
  replace K := hide (K.out.kept (Bel.one w6 (litR 0 4)))
  replace HB := hide (Bel.alloc HB.out (litR 0 4))
  generalize w6.alloc (litR 0 4) = w7 at *
  generalize w6.heap.size = gb at *
  obtain ⟨gk, hgk⟩ : ∃ g, w.heap.size = g := ⟨_, rfl⟩
  rw [hgk] at K
  have hE1 : exA.length = 2 := rfl
  have hE2 : exB.length = 2 := rfl
  have X1 := ex_ab
  have X2 := ex_ba
  have X3 := ex_sort
  have X4 := cmpR_refl exA
  generalize exA = xa at *
  generalize exB = xb at *
  generalize exK = xk at *
  have QS := hide (fun (W : World) (hW : Below w7.heap.size w7 W) => Sort_c (some ⟨W.heap.size, 0, none⟩) (some ⟨gk, 0, none⟩) 2 2 1 1 [xb, xa] xk (W.alloc (.cells #[.slice (some ⟨gb, 0, none⟩) 2 2, .slice (some ⟨ga, 0, none⟩) 2 2] 23))
    (hs_lit W [(⟨some ⟨gb, 0, none⟩, 2, 2⟩, xb), (⟨some ⟨ga, 0, none⟩, 2, 2⟩, xa)] 2 rfl (by simp [maxLen]) #[.slice (some ⟨gb, 0, none⟩) 2 2, .slice (some ⟨ga, 0, none⟩) 2 2] rfl (by
      intro p hp
      rcases List.mem_cons.1 hp with rfl | hp
      · exact RB.out.kept hW
      · obtain rfl := List.mem_singleton.1 hp
        exact RA.out.kept hW)).nest ((K.out.kept hW).kept (Bel.one W _)) (by omega) (by
      intro r hr
      rcases List.mem_cons.1 hr with rfl | hr
      · omega
      · obtain rfl := List.mem_singleton.1 hr
        omega))
  rw [X3] at QS
  have QR := hide (fun (W : World) (hW : Below w7.heap.size w7 W) => Runs2_c (some ⟨W.heap.size, 0, none⟩) (some ⟨gk, 0, none⟩) 3 3 1 1 [xa, xb, xa] xk (W.alloc (.cells #[.slice (some ⟨ga, 0, none⟩) 2 2, .slice (some ⟨gb, 0, none⟩) 2 2, .slice (some ⟨ga, 0, none⟩) 2 2] 23))
    (hs_lit W [(⟨some ⟨ga, 0, none⟩, 2, 2⟩, xa), (⟨some ⟨gb, 0, none⟩, 2, 2⟩, xb), (⟨some ⟨ga, 0, none⟩, 2, 2⟩, xa)] 3 rfl (by simp [maxLen]) #[.slice (some ⟨ga, 0, none⟩) 2 2, .slice (some ⟨gb, 0, none⟩) 2 2, .slice (some ⟨ga, 0, none⟩) 2 2] rfl (by
      intro p hp
      rcases List.mem_cons.1 hp with rfl | hp
      · exact RA.out.kept hW
      · rcases List.mem_cons.1 hp with rfl | hp
        · exact RB.out.kept hW
        · obtain rfl := List.mem_singleton.1 hp
          exact RA.out.kept hW)).nest ((K.out.kept hW).kept (Bel.one W _)) (by omega) (by
      intro r hr
      rcases List.mem_cons.1 hr with rfl | hr
      · omega
      · rcases List.mem_cons.1 hr with rfl | hr
        · omega
        · obtain rfl := List.mem_singleton.1 hr
          omega))
  have QB1 := hide (fun (W : World) (hW : Below w7.heap.size w7 W) => before_c (some ⟨ga, 0, none⟩) (some ⟨gb, 0, none⟩) (some ⟨gk, 0, none⟩) 2 2 2 2 1 1 xa xb xk W (RA.out.kept hW) (RB.out.kept hW) (K.out.kept hW))
  have QB2 := hide (fun (W : World) (hW : Below w7.heap.size w7 W) => before_c (some ⟨gb, 0, none⟩) (some ⟨ga, 0, none⟩) (some ⟨gk, 0, none⟩) 2 2 2 2 1 1 xb xa xk W (RB.out.kept hW) (RA.out.kept hW) (K.out.kept hW))
  rw [X1] at QB1
  rw [X2] at QB2
  have H7 := hide (Below.refl w7.heap.size w7)
  clear X1 X2 X3 RB K
  go_wp2_with fail
  refine (QS.out _ H7.out).mono ?_
  rintro e w8 ⟨A4, c4, rfl, hS, hb⟩
  replace H7 := hide (Bel.then (Bel.one w7 (.cells #[.slice (some ⟨gb, 0, none⟩) 2 2, .slice (some ⟨ga, 0, none⟩) 2 2] 23)) hb)
  have S := hide hS
  clear hb hS QS
  go_wp2_with fail
  refine (QB1.out _ H7.out).mono ?_
  rintro e w9 ⟨rfl, hb⟩
  replace H7 := hide (Bel.then H7.out hb)
  replace S := hide (S.out.kept hb)
  clear hb QB1
  go_wp2_with fail
  refine (QB2.out _ H7.out).mono ?_
  rintro e w10 ⟨rfl, hb⟩
  replace H7 := hide (Bel.then H7.out hb)
  replace S := hide (S.out.kept hb)
  clear hb QB2
  obtain ⟨b0, off0, A1, n1, c1, r0, rfl, hb0, hr0, hc0, h10⟩ := S.out.one (i := 0) (by omega)
  injection hr0 with hr0
  subst hr0
  rw [Nat.add_zero] at hc0
  have QO := hide (orders_c A1 (some ⟨ga, 0, none⟩) n1 c1 2 2 xa xa w10 h10 (RA.out.kept H7.out))
  rw [X4] at QO
  clear h10 RA X4
  go_wp2_with fail
  refine QO.out.mono ?_
  rintro e w11 ⟨rfl, hb⟩
  replace H7 := hide (Bel.then H7.out hb)
  clear hb QO hc0
  go_wp2_with fail
  refine (QR.out _ H7.out).mono ?_
  rintro e w12 ⟨X, cx, rfl, hb⟩
  replace HB := hide (Bel.then HB.out (Bel.then (Bel.then H7.out (Bel.one w11 (.cells #[.slice (some ⟨ga, 0, none⟩) 2 2, .slice (some ⟨gb, 0, none⟩) 2 2, .slice (some ⟨ga, 0, none⟩) 2 2] 23))) hb))
  clear hb
  go_wp2_with fail
  go_ret
  exact ⟨rfl, HB.out⟩
end Go.Proofs.Ytahdkfenpflahaa
