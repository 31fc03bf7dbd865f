/- ScalarTurns: the walk. -/
import Derived.Test.YtlkeghfdpbfhbaaScK
import Derived.Deep.CutRange
import Derived.Test.YtlkeghfdpbfhbaaDraw
namespace Go.Proofs.Ytlkeghfdpbfhbaa
set_option linter.unusedVariables false
open Go.ChangeShapes Go.WideShapes Go.ChangeAt Go.RowKit

abbrev opsC : Array Value := #[.int .i64 11, .int .i64 12, .int .i64 13, .int .i64 16, .int .i64 15, .int .i64 14]
abbrev sideC : Array Value := #[.int .i64 11, .int .i64 12, .int .i64 15, .int .i64 14, .int .i64 13, .int .i64 16]
/-- Boxes of values that stay, and the two rows of operators. -/
structure TS (w : World) (go gs : Nat) (ps : List (Nat × ValV)) (w' : World) : Prop where
  vb : ∀ p ∈ ps, VB w' p.1 p.2
  ho : Hp w' go opsC 3
  hs : Hp w' gs sideC 3
  hb : Below w.heap.size w w'
theorem TS.kept {w : World} {go gs : Nat} {ps : List (Nat × ValV)} {w' w'' : World} (h : TS w go gs ps w') (hb : Below w'.heap.size w' w'') : TS w go gs ps w'' := ⟨fun p hp => (h.vb p hp).kept hb, h.ho.kept hb, h.hs.kept hb, Bel.then h.hb hb⟩
theorem TS.add {w : World} {go gs : Nat} {ps : List (Nat × ValV)} {w' : World} (h : TS w go gs ps w') {g : Nat} {v : ValV} (hv : VB w' g v) : TS w go gs ((g, v) :: ps) w' := ⟨fun p hp => by
  rcases List.mem_cons.1 hp with rfl | hp
  · exact hv
  · exact h.vb p hp, h.ho, h.hs, h.hb⟩
theorem TS.new (w : World) (a b c : ValV) : TS w (w.heap.size + 3) (w.heap.size + 4) [(w.heap.size, a), (w.heap.size + 1, b), (w.heap.size + 2, c)] (((((w.alloc (vO a.kind a.num a.str)).alloc (vO b.kind b.num b.str)).alloc (vO c.kind c.num c.str)).alloc (.cells opsC 3)).alloc (.cells sideC 3)) := by
  obtain ⟨o1, e1⟩ : ∃ o : Obj, o = vO a.kind a.num a.str := ⟨_, rfl⟩
  obtain ⟨o2, e2⟩ : ∃ o : Obj, o = vO b.kind b.num b.str := ⟨_, rfl⟩
  obtain ⟨o3, e3⟩ : ∃ o : Obj, o = vO c.kind c.num c.str := ⟨_, rfl⟩
  obtain ⟨o4, e4⟩ : ∃ o : Obj, o = .cells opsC 3 := ⟨_, rfl⟩
  obtain ⟨o5, e5⟩ : ∃ o : Obj, o = .cells sideC 3 := ⟨_, rfl⟩
  have s1 : (w.alloc o1).heap.size = w.heap.size + 1 := World.size_alloc _ _
  have s2 : ((w.alloc o1).alloc o2).heap.size = w.heap.size + 2 := by rw [World.size_alloc, s1]
  have s3 : (((w.alloc o1).alloc o2).alloc o3).heap.size = w.heap.size + 3 := by rw [World.size_alloc, s2]
  have s4 : ((((w.alloc o1).alloc o2).alloc o3).alloc o4).heap.size = w.heap.size + 4 := by rw [World.size_alloc, s3]
  rw [← e1, ← e2, ← e3, ← e4, ← e5]
  have b1 := Bel.one w o1
  have b2 := Bel.one (w.alloc o1) o2
  have b3 := Bel.one ((w.alloc o1).alloc o2) o3
  have b4 := Bel.one (((w.alloc o1).alloc o2).alloc o3) o4
  have b5 := Bel.one ((((w.alloc o1).alloc o2).alloc o3).alloc o4) o5
  have k1 : VB (w.alloc o1) w.heap.size a := by rw [e1]; exact vb_new _ _ _ _
  have k2 : VB ((w.alloc o1).alloc o2) (w.heap.size + 1) b := by rw [← s1, e2]; exact vb_new _ _ _ _
  have k3 : VB (((w.alloc o1).alloc o2).alloc o3) (w.heap.size + 2) c := by rw [← s2, e3]; exact vb_new _ _ _ _
  have k4 : Hp ((((w.alloc o1).alloc o2).alloc o3).alloc o4) (w.heap.size + 3) opsC 3 := by rw [← s3, e4]; exact hp_new _ _ _
  have k5 : Hp (((((w.alloc o1).alloc o2).alloc o3).alloc o4).alloc o5) (w.heap.size + 4) sideC 3 := by rw [← s4, e5]; exact hp_new _ _ _
  refine ⟨fun p hp => ?_, k4.kept b5, k5, Bel.then (Bel.then (Bel.then (Bel.then b1 b2) b3) b4) b5⟩
  simp only [List.mem_cons, List.not_mem_nil, or_false] at hp
  rcases hp with rfl | rfl | rfl
  · exact (((k1.kept b2).kept b3).kept b4).kept b5
  · exact ((k2.kept b3).kept b4).kept b5
  · exact (k3.kept b4).kept b5
theorem row2 {w : World} {g : Nat} (a b : ValV) (h : Hp w g #[.int .i64 a.kind, .int .i64 a.num, .string a.str, .int .i64 b.kind, .int .i64 b.num, .string b.str] 26) : RowV w w.heap.size (some ⟨g, 0, none⟩) 2 2 [a, b] := row_blk h rfl rfl (by decide)
theorem row1 {w : World} {g : Nat} (a : ValV) (h : Hp w g #[.int .i64 a.kind, .int .i64 a.num, .string a.str] 26) : RowV w w.heap.size (some ⟨g, 0, none⟩) 1 1 [a] := row_blk h rfl rfl (by decide)
theorem row3 {w : World} {g : Nat} (a b c : ValV) (h : Hp w g #[.int .i64 a.kind, .int .i64 a.num, .string a.str, .int .i64 b.kind, .int .i64 b.num, .string b.str, .int .i64 c.kind, .int .i64 c.num, .string c.str] 26) : RowV w w.heap.size (some ⟨g, 0, none⟩) 3 3 [a, b, c] := row_blk h rfl rfl (by decide)
/-- A place that is new. -/
structure Fr (w : World) (go gs : Nat) (ps : List (Nat × ValV)) (g : Nat) : Prop where
  vb : ∀ p ∈ ps, p.1 < g
  ho : go < g
  hs : gs < g
  hb : w.heap.size ≤ g
theorem TS.fresh {w : World} {go gs : Nat} {ps : List (Nat × ValV)} {w' : World} (h : TS w go gs ps w') : Fr w go gs ps w'.heap.size := ⟨fun p hp => (h.vb p hp).lt, h.ho.lt, h.hs.lt, h.hb.size⟩
theorem TS.far {w : World} {go gs : Nat} {ps : List (Nat × ValV)} {w' : World} (h : TS w go gs ps w') {g : Nat} (hf : Fr w go gs ps g) (v : ValV) : TS w go gs ps (setV w' g v) := ⟨fun p hp => (h.vb p hp).far (Nat.ne_of_gt (hf.vb p hp)) v, hp_far h.ho (Nat.ne_of_gt hf.ho) v, hp_far h.hs (Nat.ne_of_gt hf.hs) v, below_setV h.hb hf.hb v⟩
theorem VB.set_other {w : World} {g b : Nat} {v : ValV} (h : VB w g v) (hne : b ≠ g) (u : ValV) : VB (setV w b u) g v := h.far hne u
/-- The operators at a place, and what they do. -/
theorem turn_ops {K : Nat} (hK : K < 6) : ∃ x y z : Int, 11 ≤ x ∧ x ≤ 16 ∧ 11 ≤ y ∧ y ≤ 16 ∧ 11 ≤ z ∧ z ≤ 16 ∧ opsC[K]? = some (.int .i64 x) ∧ opsC[if K % 2 = 1 then K - 1 else K + 1]? = some (.int .i64 y) ∧ sideC[K]? = some (.int .i64 z) ∧ (∀ a b, unV 4 (cmpOpV x a b) = cmpOpV y a b) ∧ (∀ a b, cmpOpV x a b = cmpOpV z b a) := by
  match K, hK with
  | 0, _ => exact ⟨11, 12, 11, by decide, by decide, by decide, by decide, by decide, by decide, rfl, rfl, rfl, cmp_not 11 12 (by simp), cmp_side 11 11 (by simp)⟩
  | 1, _ => exact ⟨12, 11, 12, by decide, by decide, by decide, by decide, by decide, by decide, rfl, rfl, rfl, cmp_not 12 11 (by simp), cmp_side 12 12 (by simp)⟩
  | 2, _ => exact ⟨13, 16, 15, by decide, by decide, by decide, by decide, by decide, by decide, rfl, rfl, rfl, cmp_not 13 16 (by simp), cmp_side 13 15 (by simp)⟩
  | 3, _ => exact ⟨16, 13, 14, by decide, by decide, by decide, by decide, by decide, by decide, rfl, rfl, rfl, cmp_not 16 13 (by simp), cmp_side 16 14 (by simp)⟩
  | 4, _ => exact ⟨15, 14, 13, by decide, by decide, by decide, by decide, by decide, by decide, rfl, rfl, rfl, cmp_not 15 14 (by simp), cmp_side 15 13 (by simp)⟩
  | 5, _ => exact ⟨14, 15, 16, by decide, by decide, by decide, by decide, by decide, by decide, rfl, rfl, rfl, cmp_not 14 15 (by simp), cmp_side 14 16 (by simp)⟩
theorem hp_cell {w : World} {g : Nat} {cs : Array Value} {t : TypeId} (h : Hp w g cs t) {i : Nat} {v : Value} (hv : cs[i]? = some v) : w.cell? ⟨g, i, none⟩ = some v := by
  rw [cell_of_row w g i cs t (0, 0) h, hv]
set_option maxRecDepth 100000 in
set_option maxHeartbeats 1000000 in
theorem turns_out (a b c : ValV) (k : Int) (hk : k < 0 ∨ 5 < k) (w : World) : Calls Try.prog 6 #[valAgg a, valAgg b, valAgg c, .int .i64 k] w fun e w' => e = .returned (.bool true) ∧ Below w.heap.size w w' := by
  have HB := hide (TS.new w a b c).hb
  unfold valAgg
  rcases (show k < 0 ∨ (¬ k < 0 ∧ 5 < k) by omega) with h1 | ⟨h1, h2⟩
  all_goals
    clear hk
    go_enter Try.func6, Try.ntmps6
    go_upto_region 3 with (fail)
    generalize ((((w.alloc (.cells #[.int .i64 a.kind, .int .i64 a.num, .string a.str] 26)).alloc (.cells #[.int .i64 b.kind, .int .i64 b.num, .string b.str] 26)).alloc (.cells #[.int .i64 c.kind, .int .i64 c.num, .string c.str] 26)).alloc (.cells opsC 3)).alloc (.cells sideC 3) = w1 at *
    go_wp2_with fail
    refine (awake_c _).mono ?_
    rintro e w2 ⟨rfl, hb⟩
    go_wp2_with fail
    go_ret
    exact ⟨rfl, Bel.then HB.out hb⟩
set_option maxRecDepth 100000 in
set_option maxHeartbeats 20000000 in
theorem turns_in (a b c : ValV) (K : Nat) (hK : K < 6) (w : World) : Calls Try.prog 6 #[valAgg a, valAgg b, valAgg c, .int .i64 K] w fun e w' => e = .returned (.bool true) ∧ Below w.heap.size w w' := by
  obtain ⟨x, y, z, x1, x2, y1, y2, z1, z2, hx, hy, hz, hnot, hside⟩ := turn_ops hK
  obtain ⟨O, hO⟩ : ∃ O, (if K % 2 = 1 then K - 1 else K + 1) = O := ⟨_, rfl⟩
  rw [hO] at hy
  have HO : Hid ((if K % 2 = 1 then K - 1 else K + 1) = O) := hO
  have HOX := hide hx
  have HOY := hide hy
  have HOZ := hide hz
  have HS0 := hide (TS.new w a b c)
  have k0 : ¬ (K : Int) < 0 := by omega
  have k5 : ¬ (5 : Int) < (K : Int) := by omega
  have k6 : (K : Int) < 6 := by omega
  have QX := hide (fun A W h => apply2_c x (.inl ⟨by omega, by omega⟩) eS a b A 2 W h (fun h => by omega))
  obtain ⟨X, hX⟩ : ∃ X, binV x a b = X := ⟨_, rfl⟩
  rw [hX] at QX
  have HX := hide hX
  clear hx hy hz hO hX
  obtain ⟨N, hN⟩ : ∃ N, unV 4 X = N := ⟨_, rfl⟩
  have QN := hide (fun A W h => apply1_c 4 (by simp) eS X A 1 W h)
  rw [hN] at QN
  obtain ⟨G, hG⟩ : ∃ G, binV 16 a b = G := ⟨_, rfl⟩
  have QG := hide (fun A W h => apply2_c 16 (.inl ⟨by decide, by decide⟩) eS a b A 2 W h (fun h => by omega))
  rw [hG] at QG
  obtain ⟨L, hL⟩ : ∃ L, binV 14 a c = L := ⟨_, rfl⟩
  have QL := hide (fun A W h => apply2_c 14 (.inl ⟨by decide, by decide⟩) eS a c A 2 W h (fun h => by omega))
  rw [hL] at QL
  obtain ⟨U, hU⟩ : ∃ U, binV 17 G L = U := ⟨_, rfl⟩
  have QU := hide (fun A W h => apply2_c 17 (.inl ⟨by decide, by decide⟩) eS G L A 2 W h (fun h => by omega))
  rw [hU] at QU
  obtain ⟨Y, hY⟩ : ∃ Y, binV y a b = Y := ⟨_, rfl⟩
  have QY := hide (fun A W h => apply2_c y (.inl ⟨by omega, by omega⟩) eS a b A 2 W h (fun h => by omega))
  rw [hY] at QY
  obtain ⟨Z, hZ⟩ : ∃ Z, binV z b a = Z := ⟨_, rfl⟩
  have QZ := hide (fun A W h => apply2_c z (.inl ⟨by omega, by omega⟩) eS b a A 2 W h (fun h => by omega))
  rw [hZ] at QZ
  have QB := hide (fun A W h => apply3_c eS a b c A 3 W h)
  have hB : betV a b c = U := by unfold betV; rw [hG, hL, hU]
  rw [hB] at QB
  have hYN : Y = N := by rw [← hY, ← hN, ← HX.out, binV_cmp ⟨x1, x2⟩, binV_cmp ⟨y1, y2⟩]; exact (hnot a b).symm
  have hZX : Z = X := by rw [← hZ, ← HX.out, binV_cmp ⟨x1, x2⟩, binV_cmp ⟨z1, z2⟩]; exact (hside a b).symm
  have hUf : frV U = andI (frV G) (frV L) := by rw [← hU]; exact from_and G L
  rw [hYN] at QY
  rw [hZX] at QZ
  have QF := hide (fun v W => fromv_c v W)
  have QA := hide (fun p q W => and14 p q W)
  have E1 := hide (valEq_same N.kind N.num N.str)
  have E2 := hide (valEq_same X.kind X.num X.str)
  have E3 := hide (valEq_same U.kind U.num U.str)
  have HUf := hide hUf
  clear hN hG hL hU hY hZ hB hYN hZX hUf
  clear hnot hside
  unfold GivesV valAgg at QX QN QG QL QU QY QZ QB
  unfold valAgg at QF
  have hO6 : O < 6 := by have := HO.out; split at this <;> omega
  have o6 : (O : Int) < 6 := by omega
  have o0 : ¬ (O : Int) < 0 := by omega
  clear hO6
  unfold valAgg
  go_enter Try.func6, Try.ntmps6
  go_upto_region 3 with (fail)
  simp only [Nat.add_assoc, Nat.reduceAdd]
  generalize ((((w.alloc (.cells #[.int .i64 a.kind, .int .i64 a.num, .string a.str] 26)).alloc (.cells #[.int .i64 b.kind, .int .i64 b.num, .string b.str] 26)).alloc (.cells #[.int .i64 c.kind, .int .i64 c.num, .string c.str] 26)).alloc (.cells opsC 3)).alloc (.cells sideC 3) = w1 at *
  have f1 : IntKind.i64.wrap ((K : Int) + 1) = (K : Int) + 1 := IntWalk.i64_in _ (by omega)
  go_upto_if 30 with (fail)
  go_cut [11] from 26 to 32 (fun o wx => o = .int .i64 O ∧ wx = w1)
  case first =>
    have f2 : IntKind.i64.wrap ((K : Int) - 1) = (K : Int) - 1 := IntWalk.i64_in _ (by omega)
    by_cases hp : K % 2 = 1
    · have f5 : ((K : Int) % 2 == 1) = true := by rw [beq_iff_eq]; omega
      have f6 : (K : Int) - 1 = (O : Int) := by have := HO.out; rw [if_pos hp] at this; omega
      clear hp
      go_wp2_with fail
      go_meet
      case rel => exact ⟨by first | rfl | go_num, rfl⟩
    · have f5 : ((K : Int) % 2 == 1) = false := by rw [beq_eq_false_iff_ne]; omega
      have f6 : (K : Int) + 1 = (O : Int) := by have := HO.out; rw [if_neg hp] at this; omega
      clear hp
      go_wp2_with fail
      go_meet
      case rel => exact ⟨by first | rfl | (rw [← f6]), rfl⟩
  case rest =>
    obtain ⟨rfl, rfl⟩ := hcut
    go_upto_region 8 with (fail)
    go_cut [12] from 33 to 40 (fun p wx => ∃ gx, p = .pointer (some ⟨gx, 0, none⟩) ∧ TS w (w.heap.size + 3) (w.heap.size + 4) [(gx, X), (w.heap.size, a), (w.heap.size + 1, b), (w.heap.size + 2, c)] wx)
    case first =>
      refine wp_region_held_drew (S := fun w' => TS w (w.heap.size + 3) (w.heap.size + 4) [(w.heap.size, a), (w.heap.size + 1, b), (w.heap.size + 2, c)] w') (by kernel_rfl) (HS0.out.kept (Below.refl _ _).drew) (fun hHeld => ?_)
      first | (refine wpAnyH_take (i := 0) (v := ?_) nth0 (by kernel_rfl) (by kernel_rfl) (by kernel_rfl) (fun _ _ _ h => h) (Or.inl ⟨by rfl, ?_⟩) hHeld ?_; rotate_left; focus (intro wS hSw; (have A := (hSw.vb (w.heap.size, a) (by simp)).all; have B := (hSw.vb (w.heap.size + 1, b) (by simp)).all; have C := (hSw.vb (w.heap.size + 2, c) (by simp)).all; obtain ⟨⟨a0, a1, a2⟩, _⟩ := A; obtain ⟨⟨b0, b1, b2⟩, _⟩ := B; obtain ⟨⟨d0, d1, d2⟩, _⟩ := C; have ox := hp_cell hSw.ho HOX.out; have sz := hp_cell hSw.hs HOZ.out); go_simp; try with_reducible rfl; done)) | fail
      (try simp only [Act.put]); (try simp only [List.setIfInBounds_toArray]); (try simp only [List.set_cons_succ]); (try simp only [List.set_cons_zero])
      first | (refine wpAnyH_take (i := 1) (v := ?_) nth1 (by kernel_rfl) (by kernel_rfl) (by kernel_rfl) (fun _ _ _ h => h) (Or.inl ⟨by rfl, ?_⟩) hHeld ?_; rotate_left; focus (intro wS hSw; (have A := (hSw.vb (w.heap.size, a) (by simp)).all; have B := (hSw.vb (w.heap.size + 1, b) (by simp)).all; have C := (hSw.vb (w.heap.size + 2, c) (by simp)).all; obtain ⟨⟨a0, a1, a2⟩, _⟩ := A; obtain ⟨⟨b0, b1, b2⟩, _⟩ := B; obtain ⟨⟨d0, d1, d2⟩, _⟩ := C; have ox := hp_cell hSw.ho HOX.out; have sz := hp_cell hSw.hs HOZ.out); go_simp; try with_reducible rfl; done)) | fail
      (try simp only [Act.put]); (try simp only [List.setIfInBounds_toArray]); (try simp only [List.set_cons_succ]); (try simp only [List.set_cons_zero])
      first | (refine wpAnyH_take (i := 2) (v := ?_) nth2 (by kernel_rfl) (by kernel_rfl) (by kernel_rfl) (fun _ _ _ h => h) (Or.inl ⟨by rfl, ?_⟩) hHeld ?_; rotate_left; focus (intro wS hSw; (have A := (hSw.vb (w.heap.size, a) (by simp)).all; have B := (hSw.vb (w.heap.size + 1, b) (by simp)).all; have C := (hSw.vb (w.heap.size + 2, c) (by simp)).all; obtain ⟨⟨a0, a1, a2⟩, _⟩ := A; obtain ⟨⟨b0, b1, b2⟩, _⟩ := B; obtain ⟨⟨d0, d1, d2⟩, _⟩ := C; have ox := hp_cell hSw.ho HOX.out; have sz := hp_cell hSw.hs HOZ.out); go_simp; try with_reducible rfl; done)) | fail
      (try simp only [Act.put]); (try simp only [List.setIfInBounds_toArray]); (try simp only [List.set_cons_succ]); (try simp only [List.set_cons_zero])
      first | (refine wpAnyH_take (i := 3) (v := ?_) nth3 (by kernel_rfl) (by kernel_rfl) (by kernel_rfl) (fun _ _ _ h => h) (Or.inl ⟨by rfl, ?_⟩) hHeld ?_; rotate_left; focus (intro wS hSw; (have A := (hSw.vb (w.heap.size, a) (by simp)).all; have B := (hSw.vb (w.heap.size + 1, b) (by simp)).all; have C := (hSw.vb (w.heap.size + 2, c) (by simp)).all; obtain ⟨⟨a0, a1, a2⟩, _⟩ := A; obtain ⟨⟨b0, b1, b2⟩, _⟩ := B; obtain ⟨⟨d0, d1, d2⟩, _⟩ := C; have ox := hp_cell hSw.ho HOX.out; have sz := hp_cell hSw.hs HOZ.out); go_simp; try with_reducible rfl; done)) | fail
      (try simp only [Act.put]); (try simp only [List.setIfInBounds_toArray]); (try simp only [List.set_cons_succ]); (try simp only [List.set_cons_zero])
      first | (refine wpAnyH_take (i := 4) (v := ?_) nth4 (by kernel_rfl) (by kernel_rfl) (by kernel_rfl) (fun _ _ _ h => h) (Or.inl ⟨by rfl, ?_⟩) hHeld ?_; rotate_left; focus (intro wS hSw; (have A := (hSw.vb (w.heap.size, a) (by simp)).all; have B := (hSw.vb (w.heap.size + 1, b) (by simp)).all; have C := (hSw.vb (w.heap.size + 2, c) (by simp)).all; obtain ⟨⟨a0, a1, a2⟩, _⟩ := A; obtain ⟨⟨b0, b1, b2⟩, _⟩ := B; obtain ⟨⟨d0, d1, d2⟩, _⟩ := C; have ox := hp_cell hSw.ho HOX.out; have sz := hp_cell hSw.hs HOZ.out); go_simp; try with_reducible rfl; done)) | fail
      (try simp only [Act.put]); (try simp only [List.setIfInBounds_toArray]); (try simp only [List.set_cons_succ]); (try simp only [List.set_cons_zero])
      first | (refine wpAnyH_take (i := 5) (v := ?_) nth5 (by kernel_rfl) (by kernel_rfl) (by kernel_rfl) (fun _ _ _ h => h) (Or.inl ⟨by rfl, ?_⟩) hHeld ?_; rotate_left; focus (intro wS hSw; (have A := (hSw.vb (w.heap.size, a) (by simp)).all; have B := (hSw.vb (w.heap.size + 1, b) (by simp)).all; have C := (hSw.vb (w.heap.size + 2, c) (by simp)).all; obtain ⟨⟨a0, a1, a2⟩, _⟩ := A; obtain ⟨⟨b0, b1, b2⟩, _⟩ := B; obtain ⟨⟨d0, d1, d2⟩, _⟩ := C; have ox := hp_cell hSw.ho HOX.out; have sz := hp_cell hSw.hs HOZ.out); go_simp; try with_reducible rfl; done)) | fail
      (try simp only [Act.put]); (try simp only [List.setIfInBounds_toArray]); (try simp only [List.set_cons_succ]); (try simp only [List.set_cons_zero])
      refine wpAnyH_puts [39, 40, 12] (fun listed vs w' => ∃ (b6 b7 b8 b9 : Bool) (v39 v40 p12 : Value) (gs6 ga8 : Nat), listed = #[true, true, true, true, true, true, b6, b7, b8, b9] ∧ vs = [v39, v40, p12] ∧ TS w (w.heap.size + 3) (w.heap.size + 4) [(w.heap.size, a), (w.heap.size + 1, b), (w.heap.size + 2, c)] w' ∧ (b6 = true → b7 = false → v39 = .slice (some ⟨gs6, 0, none⟩) 2 2 ∧ Hp w' gs6 #[.int .i64 a.kind, .int .i64 a.num, .string a.str, .int .i64 b.kind, .int .i64 b.num, .string b.str] 26) ∧ (b7 = true → v40 = .agg #[.int .i64 X.kind, .int .i64 X.num, .string X.str]) ∧ (b8 = true → p12 = .pointer (some ⟨ga8, 0, none⟩) ∧ Fr w (w.heap.size + 3) (w.heap.size + 4) [(w.heap.size, a), (w.heap.size + 1, b), (w.heap.size + 2, c)] ga8 ∧ VB w' ga8 (if b9 then X else nullV)) ∧ (b9 = true → b8 = true ∧ b7 = true)) (vs0 := [undef, undef, undef]) rfl ⟨false, false, false, false, undef, undef, undef, 0, 0, rfl, rfl, hHeld, (by intro h; cases h), (by intro h; cases h), (by intro h; cases h), (by intro h; cases h)⟩ (by decide) ?_ ?_
      · rintro listed vs w' ⟨b6, b7, b8, b9, v39, v40, p12, gs6, ga8, rfl, rfl, hS, hsl6, hca7, hal8, hst9⟩ i hi
        have hlt : i < 10 := by
          rcases Nat.lt_or_ge i 10 with h | h
          · exact h
          · have hm := (mem_ready.1 hi).1
            rw [Array.getD_eq_getD_getElem?, Array.getElem?_eq_none (by simpa using h)] at hm
            exact absurd hm (by decide)
        match i, hlt, hi with
        | 0, _, hi => exact Bool.noConfusion (show true = false from (mem_ready.1 hi).1)
        | 1, _, hi => exact Bool.noConfusion (show true = false from (mem_ready.1 hi).1)
        | 2, _, hi => exact Bool.noConfusion (show true = false from (mem_ready.1 hi).1)
        | 3, _, hi => exact Bool.noConfusion (show true = false from (mem_ready.1 hi).1)
        | 4, _, hi => exact Bool.noConfusion (show true = false from (mem_ready.1 hi).1)
        | 5, _, hi => exact Bool.noConfusion (show true = false from (mem_ready.1 hi).1)
        | 6, _, hi =>
          have hb : b6 = false := (mem_ready.1 hi).1
          subst hb
          have hS2 := hide (hS.kept (Bel.one w' (.cells #[.int .i64 a.kind, .int .i64 a.num, .string a.str, .int .i64 b.kind, .int .i64 b.num, .string b.str] 26)))
          have Hsl6 := hide hsl6
          have Hca7 := hide hca7
          have Hal8 := hide hal8
          have Hst9 := hide hst9
          have HN := hide (hp_new w' #[.int .i64 a.kind, .int .i64 a.num, .string a.str, .int .i64 b.kind, .int .i64 b.num, .string b.str] 26)
          clear hi hS hlt hsl6 hca7 hal8 hst9
          refine wpOp_step nth6 (fun K hK' => ?_)
          have hK := hide hK'
          clear hK'
          (try simp only [puts]); (try simp only [Act.put]); (try simp only [List.setIfInBounds_toArray]); (try simp only [List.set_cons_succ, List.set_cons_zero])
          go_simp
          refine hK.out _ _ ⟨hS2.out, [.slice (some ⟨w'.heap.size, 0, none⟩) 2 2, v40, p12], rfl, true, b7, b8, b9, _, _, _, w'.heap.size, ga8, rfl, rfl, hS2.out, (fun _ _ => ⟨rfl, HN.out⟩), Hca7.out, (fun h => ⟨(Hal8.out h).1, (Hal8.out h).2.1, (Hal8.out h).2.2.kept (Bel.one _ _)⟩), Hst9.out⟩
        | 7, _, hi =>
          have hb : b7 = false := (mem_ready.1 hi).1
          subst hb
          have hbs : b6 = true := (ready_get hi nth7).2 ⟨6, .data⟩ (by simp) rfl
          obtain ⟨hve, hR⟩ := hsl6 hbs rfl
          have HR := hide (row2 a b hR)
          have HSS := hide hS
          have Hsl6 := hide hsl6
          have Hca7 := hide hca7
          have Hal8 := hide hal8
          have Hst9 := hide hst9
          clear hi hS hlt hR hsl6 hca7 hal8 hst9
          subst hve
          refine wpOp_step nth7 (fun K hK' => ?_)
          have hK := hide hK'
          clear hK'
          (try simp only [puts]); (try simp only [Act.put]); (try simp only [List.setIfInBounds_toArray]); (try simp only [List.set_cons_succ, List.set_cons_zero])
          go_simp
          go_at_call 10
          refine (QX.out _ _ HR.out).mono ?_
          rintro e w'' ⟨rfl, hb⟩
          refine hK.out _ _ ⟨(HSS.out.kept hb), [.slice (some ⟨gs6, 0, none⟩) 2 2, .agg #[.int .i64 X.kind, .int .i64 X.num, .string X.str], p12], rfl, b6, true, b8, b9, _, _, _, gs6, ga8, rfl, rfl, (HSS.out.kept hb), (fun _ h => Bool.noConfusion h), (fun _ => rfl), (fun h => ⟨(Hal8.out h).1, (Hal8.out h).2.1, (Hal8.out h).2.2.kept hb⟩), (fun h => ⟨(Hst9.out h).1, rfl⟩)⟩
        | 8, _, hi =>
          have hb : b8 = false := (mem_ready.1 hi).1
          subst hb
          have hbst : b9 = false := by
            cases h : b9 with
            | false => rfl
            | true => exact Bool.noConfusion (hst9 h).1
          subst hbst
          have hS2 := hide (hS.kept (Bel.one w' zO))
          have HF := hide hS.fresh
          have HN := hide (vb_one w')
          have Hsl6 := hide hsl6
          have Hca7 := hide hca7
          have Hal8 := hide hal8
          have Hst9 := hide hst9
          clear hi hS hlt hsl6 hca7 hal8 hst9
          refine wpOp_step nth8 (fun K hK' => ?_)
          have hK := hide hK'
          clear hK'
          (try simp only [puts]); (try simp only [Act.put]); (try simp only [List.setIfInBounds_toArray]); (try simp only [List.set_cons_succ, List.set_cons_zero])
          go_simp
          refine hK.out _ _ ⟨hS2.out, [v39, v40, .pointer (some ⟨w'.heap.size, 0, none⟩)], rfl, b6, b7, true, false, _, _, _, gs6, w'.heap.size, rfl, rfl, hS2.out, (fun h1 h2 => ⟨(Hsl6.out h1 h2).1, (Hsl6.out h1 h2).2.kept (Bel.one _ _)⟩), Hca7.out, (fun _ => ⟨rfl, HF.out, HN.out⟩), (fun h => Bool.noConfusion h)⟩
        | 9, _, hi =>
          have hb : b9 = false := (mem_ready.1 hi).1
          subst hb
          have hb8 : b8 = true := (ready_get hi nth9).2 ⟨8, .data⟩ (by simp) rfl
          have hb7 : b7 = true := (ready_get hi nth9).2 ⟨7, .data⟩ (by simp) rfl
          subst hb8 hb7
          obtain ⟨hpe, hF, hV⟩ := hal8 rfl
          have hve := hca7 rfl
          have hT := hide (hS.far hF X)
          have hV2 := hide (hV.set3 X)
          have HF := hide hF
          obtain ⟨⟨c0, c1, c2⟩, ⟨y0, y1, y2⟩⟩ := hV.all
          have Hsl6 := hide hsl6
          have Hca7 := hide hca7
          have Hal8 := hide hal8
          have Hst9 := hide hst9
          clear hi hS hlt hV hF hsl6 hca7 hal8 hst9
          subst hpe hve
          refine wpOp_step nth9 (fun K hK' => ?_)
          have hK := hide hK'
          clear hK'
          (try simp only [puts]); (try simp only [Act.put]); (try simp only [List.setIfInBounds_toArray]); (try simp only [List.set_cons_succ, List.set_cons_zero])
          go_simp
          refine hK.out _ _ ⟨hT.out, [v39, .agg #[.int .i64 X.kind, .int .i64 X.num, .string X.str], .pointer (some ⟨ga8, 0, none⟩)], rfl, b6, true, true, true, _, _, _, gs6, ga8, rfl, rfl, hT.out, (fun _ h => Bool.noConfusion h), Hca7.out, (fun _ => ⟨rfl, HF.out, hV2.out⟩), (fun _ => ⟨rfl, rfl⟩)⟩
      · rintro listed vs w' ⟨b6, b7, b8, b9, v39, v40, p12, gs6, ga8, rfl, rfl, hS, hsl6, hca7, hal8, hst9⟩ hr
        have e6 : b6 = true := ready_put hr nth6 (by simp)
        have e8 : b8 = true := ready_put hr nth8 (by simp [e6])
        have e7 : b7 = true := ready_put hr nth7 (by simp [e6, e8])
        have e9 : b9 = true := ready_put hr nth9 (by simp [e6, e8, e7])
        obtain ⟨hpe8, hF8, hV8⟩ := hal8 e8
        rw [e9, if_pos rfl] at hV8
        subst hpe8
        (try simp only [puts]); (try simp only [Act.put]); (try simp only [List.setIfInBounds_toArray]); (try simp only [List.set_cons_succ, List.set_cons_zero])
        go_wp2_with fail
        go_meet
        case rel => exact ⟨ga8, rfl, hS.add hV8⟩
    case rest =>
      clear HS0 HX
      obtain ⟨gx, rfl, HT⟩ := hcut
      have HS0 := hide HT
      clear HT
      go_upto_region 9 with (fail)
      go_cut [13] from 41 to 43 (fun p wx => ∃ gn, p = .pointer (some ⟨gn, 0, none⟩) ∧ TS w (w.heap.size + 3) (w.heap.size + 4) [(gn, N), (gx, X), (w.heap.size, a), (w.heap.size + 1, b), (w.heap.size + 2, c)] wx)
      case first =>
        have A0 := (HS0.out.vb (gx, X) (by simp)).all
        obtain ⟨⟨_, _, _⟩, _⟩ := A0
        have HB1 := hide (Bel.one wc (.cells #[.int .i64 X.kind, .int .i64 X.num, .string X.str] 26))
        go_wp2_with fail
        refine (QN.out _ _ (row1 X (hp_new _ _ _))).mono ?_
        rintro e w2 ⟨rfl, hb⟩
        have HT2 := hide (HS0.out.kept (Bel.then HB1.out hb))
        clear hb HB1
        have HT3 := hide (HT2.out.kept (Bel.one w2 (vO N.kind N.num N.str)))
        have HV : Hid (VB (w2.alloc (vO N.kind N.num N.str)) w2.heap.size N) := vb_new w2 _ _ _
        obtain ⟨⟨c0, c1, c2⟩, ⟨y0, y1, y2⟩⟩ := (vb_one w2).all
        go_wp2_with fail
        go_meet
        case rel => exact ⟨_, rfl, HT3.out.add HV.out⟩
      case rest =>
        clear HS0
        obtain ⟨gn, rfl, HT⟩ := hcut
        have HS0 := hide HT
        clear HT
        go_upto_region 10 with (fail)
        go_cut [14, 15] from 44 to 51 (fun p q wx => ∃ gg gl, p = .pointer (some ⟨gg, 0, none⟩) ∧ q = .pointer (some ⟨gl, 0, none⟩) ∧ TS w (w.heap.size + 3) (w.heap.size + 4) [(gl, L), (gg, G), (gn, N), (gx, X), (w.heap.size, a), (w.heap.size + 1, b), (w.heap.size + 2, c)] wx)
        case first =>
          refine wp_region_held_drew (S := fun w' => TS w (w.heap.size + 3) (w.heap.size + 4) [(gn, N), (gx, X), (w.heap.size, a), (w.heap.size + 1, b), (w.heap.size + 2, c)] w') (by kernel_rfl) (HS0.out.kept (Below.refl _ _).drew) (fun hHeld => ?_)
          first | (refine wpAnyH_take (i := 0) (v := ?_) nth0 (by kernel_rfl) (by kernel_rfl) (by kernel_rfl) (fun _ _ _ h => h) (Or.inl ⟨by rfl, ?_⟩) hHeld ?_; rotate_left; focus (intro wS hSw; (obtain ⟨⟨_, _, _⟩, _⟩ := (hSw.vb (w.heap.size, a) (by simp)).all; obtain ⟨⟨_, _, _⟩, _⟩ := (hSw.vb (w.heap.size + 1, b) (by simp)).all; obtain ⟨⟨_, _, _⟩, _⟩ := (hSw.vb (w.heap.size + 2, c) (by simp)).all); go_simp; try with_reducible rfl; done)) | fail
          (try simp only [Act.put]); (try simp only [List.setIfInBounds_toArray]); (try simp only [List.set_cons_succ]); (try simp only [List.set_cons_zero])
          first | (refine wpAnyH_take (i := 1) (v := ?_) nth1 (by kernel_rfl) (by kernel_rfl) (by kernel_rfl) (fun _ _ _ h => h) (Or.inl ⟨by rfl, ?_⟩) hHeld ?_; rotate_left; focus (intro wS hSw; (obtain ⟨⟨_, _, _⟩, _⟩ := (hSw.vb (w.heap.size, a) (by simp)).all; obtain ⟨⟨_, _, _⟩, _⟩ := (hSw.vb (w.heap.size + 1, b) (by simp)).all; obtain ⟨⟨_, _, _⟩, _⟩ := (hSw.vb (w.heap.size + 2, c) (by simp)).all); go_simp; try with_reducible rfl; done)) | fail
          (try simp only [Act.put]); (try simp only [List.setIfInBounds_toArray]); (try simp only [List.set_cons_succ]); (try simp only [List.set_cons_zero])
          first | (refine wpAnyH_take (i := 4) (v := ?_) nth4 (by kernel_rfl) (by kernel_rfl) (by kernel_rfl) (fun _ _ _ h => h) (Or.inl ⟨by rfl, ?_⟩) hHeld ?_; rotate_left; focus (intro wS hSw; (obtain ⟨⟨_, _, _⟩, _⟩ := (hSw.vb (w.heap.size, a) (by simp)).all; obtain ⟨⟨_, _, _⟩, _⟩ := (hSw.vb (w.heap.size + 1, b) (by simp)).all; obtain ⟨⟨_, _, _⟩, _⟩ := (hSw.vb (w.heap.size + 2, c) (by simp)).all); go_simp; try with_reducible rfl; done)) | fail
          (try simp only [Act.put]); (try simp only [List.setIfInBounds_toArray]); (try simp only [List.set_cons_succ]); (try simp only [List.set_cons_zero])
          first | (refine wpAnyH_take (i := 5) (v := ?_) nth5 (by kernel_rfl) (by kernel_rfl) (by kernel_rfl) (fun _ _ _ h => h) (Or.inl ⟨by rfl, ?_⟩) hHeld ?_; rotate_left; focus (intro wS hSw; (obtain ⟨⟨_, _, _⟩, _⟩ := (hSw.vb (w.heap.size, a) (by simp)).all; obtain ⟨⟨_, _, _⟩, _⟩ := (hSw.vb (w.heap.size + 1, b) (by simp)).all; obtain ⟨⟨_, _, _⟩, _⟩ := (hSw.vb (w.heap.size + 2, c) (by simp)).all); go_simp; try with_reducible rfl; done)) | fail
          (try simp only [Act.put]); (try simp only [List.setIfInBounds_toArray]); (try simp only [List.set_cons_succ]); (try simp only [List.set_cons_zero])
          refine wpAnyH_puts [46, 47, 50, 51, 14, 15] (fun listed vs w' => ∃ (b2 b3 b6 b7 b8 b9 b10 b11 : Bool) (v46 v47 v50 v51 p14 p15 : Value) (gs2 gs6 ga8 ga9 : Nat), listed = #[true, true, b2, b3, true, true, b6, b7, b8, b9, b10, b11] ∧ vs = [v46, v47, v50, v51, p14, p15] ∧ TS w (w.heap.size + 3) (w.heap.size + 4) [(gn, N), (gx, X), (w.heap.size, a), (w.heap.size + 1, b), (w.heap.size + 2, c)] w' ∧ (b2 = true → b3 = false → v46 = .slice (some ⟨gs2, 0, none⟩) 2 2 ∧ Hp w' gs2 #[.int .i64 a.kind, .int .i64 a.num, .string a.str, .int .i64 b.kind, .int .i64 b.num, .string b.str] 26) ∧ (b6 = true → b7 = false → v50 = .slice (some ⟨gs6, 0, none⟩) 2 2 ∧ Hp w' gs6 #[.int .i64 a.kind, .int .i64 a.num, .string a.str, .int .i64 c.kind, .int .i64 c.num, .string c.str] 26) ∧ (b3 = true → v47 = .agg #[.int .i64 G.kind, .int .i64 G.num, .string G.str]) ∧ (b7 = true → v51 = .agg #[.int .i64 L.kind, .int .i64 L.num, .string L.str]) ∧ (b8 = true → p14 = .pointer (some ⟨ga8, 0, none⟩) ∧ Fr w (w.heap.size + 3) (w.heap.size + 4) [(gn, N), (gx, X), (w.heap.size, a), (w.heap.size + 1, b), (w.heap.size + 2, c)] ga8 ∧ VB w' ga8 (if b10 then G else nullV)) ∧ (b9 = true → p15 = .pointer (some ⟨ga9, 0, none⟩) ∧ Fr w (w.heap.size + 3) (w.heap.size + 4) [(gn, N), (gx, X), (w.heap.size, a), (w.heap.size + 1, b), (w.heap.size + 2, c)] ga9 ∧ VB w' ga9 (if b11 then L else nullV)) ∧ (b8 = true → b9 = true → ga8 ≠ ga9) ∧ (b10 = true → b8 = true ∧ b3 = true ∧ b7 = true) ∧ (b11 = true → b9 = true ∧ b3 = true ∧ b7 = true)) (vs0 := [undef, undef, undef, undef, undef, undef]) rfl ⟨false, false, false, false, false, false, false, false, undef, undef, undef, undef, undef, undef, 0, 0, 0, 0, rfl, rfl, hHeld, (by intro h; cases h), (by intro h; cases h), (by intro h; cases h), (by intro h; cases h), (by intro h; cases h), (by intro h; cases h), (by intro h; cases h), (by intro h; cases h), (by intro h; cases h)⟩ (by decide) ?_ ?_
          · rintro listed vs w' ⟨b2, b3, b6, b7, b8, b9, b10, b11, v46, v47, v50, v51, p14, p15, gs2, gs6, ga8, ga9, rfl, rfl, hS, hsl2, hsl6, hca3, hca7, hal8, hal9, hne8_9, hst10, hst11⟩ i hi
            have hlt : i < 12 := by
              rcases Nat.lt_or_ge i 12 with h | h
              · exact h
              · have hm := (mem_ready.1 hi).1
                rw [Array.getD_eq_getD_getElem?, Array.getElem?_eq_none (by simpa using h)] at hm
                exact absurd hm (by decide)
            match i, hlt, hi with
            | 0, _, hi => exact Bool.noConfusion (show true = false from (mem_ready.1 hi).1)
            | 1, _, hi => exact Bool.noConfusion (show true = false from (mem_ready.1 hi).1)
            | 4, _, hi => exact Bool.noConfusion (show true = false from (mem_ready.1 hi).1)
            | 5, _, hi => exact Bool.noConfusion (show true = false from (mem_ready.1 hi).1)
            | 2, _, hi =>
              have hb : b2 = false := (mem_ready.1 hi).1
              subst hb
              have hS2 := hide (hS.kept (Bel.one w' (.cells #[.int .i64 a.kind, .int .i64 a.num, .string a.str, .int .i64 b.kind, .int .i64 b.num, .string b.str] 26)))
              have Hsl2 := hide hsl2
              have Hsl6 := hide hsl6
              have Hca3 := hide hca3
              have Hca7 := hide hca7
              have Hal8 := hide hal8
              have Hal9 := hide hal9
              have Hne8_9 := hide hne8_9
              have Hst10 := hide hst10
              have Hst11 := hide hst11
              have HN := hide (hp_new w' #[.int .i64 a.kind, .int .i64 a.num, .string a.str, .int .i64 b.kind, .int .i64 b.num, .string b.str] 26)
              clear hi hS hlt hsl2 hsl6 hca3 hca7 hal8 hal9 hne8_9 hst10 hst11
              refine wpOp_step nth2 (fun K hK' => ?_)
              have hK := hide hK'
              clear hK'
              (try simp only [puts]); (try simp only [Act.put]); (try simp only [List.setIfInBounds_toArray]); (try simp only [List.set_cons_succ, List.set_cons_zero])
              go_simp
              refine hK.out _ _ ⟨hS2.out, [.slice (some ⟨w'.heap.size, 0, none⟩) 2 2, v47, v50, v51, p14, p15], rfl, true, b3, b6, b7, b8, b9, b10, b11, _, _, _, _, _, _, w'.heap.size, gs6, ga8, ga9, rfl, rfl, hS2.out, (fun _ _ => ⟨rfl, HN.out⟩), (fun h1 h2 => ⟨(Hsl6.out h1 h2).1, (Hsl6.out h1 h2).2.kept (Bel.one _ _)⟩), Hca3.out, Hca7.out, (fun h => ⟨(Hal8.out h).1, (Hal8.out h).2.1, (Hal8.out h).2.2.kept (Bel.one _ _)⟩), (fun h => ⟨(Hal9.out h).1, (Hal9.out h).2.1, (Hal9.out h).2.2.kept (Bel.one _ _)⟩), Hne8_9.out, Hst10.out, Hst11.out⟩
            | 3, _, hi =>
              have hb : b3 = false := (mem_ready.1 hi).1
              subst hb
              have hbs : b2 = true := (ready_get hi nth3).2 ⟨2, .data⟩ (by simp) rfl
              obtain ⟨hve, hR⟩ := hsl2 hbs rfl
              have HR := hide (row2 a b hR)
              have HSS := hide hS
              have Hsl2 := hide hsl2
              have Hsl6 := hide hsl6
              have Hca3 := hide hca3
              have Hca7 := hide hca7
              have Hal8 := hide hal8
              have Hal9 := hide hal9
              have Hne8_9 := hide hne8_9
              have Hst10 := hide hst10
              have Hst11 := hide hst11
              clear hi hS hlt hR hsl2 hsl6 hca3 hca7 hal8 hal9 hne8_9 hst10 hst11
              subst hve
              refine wpOp_step nth3 (fun K hK' => ?_)
              have hK := hide hK'
              clear hK'
              (try simp only [puts]); (try simp only [Act.put]); (try simp only [List.setIfInBounds_toArray]); (try simp only [List.set_cons_succ, List.set_cons_zero])
              go_simp
              go_at_call 10
              refine (QG.out _ _ HR.out).mono ?_
              rintro e w'' ⟨rfl, hb⟩
              refine hK.out _ _ ⟨(HSS.out.kept hb), [.slice (some ⟨gs2, 0, none⟩) 2 2, .agg #[.int .i64 G.kind, .int .i64 G.num, .string G.str], v50, v51, p14, p15], rfl, b2, true, b6, b7, b8, b9, b10, b11, _, _, _, _, _, _, gs2, gs6, ga8, ga9, rfl, rfl, (HSS.out.kept hb), (fun _ h => Bool.noConfusion h), (fun h1 h2 => ⟨(Hsl6.out h1 h2).1, (Hsl6.out h1 h2).2.kept hb⟩), (fun _ => rfl), Hca7.out, (fun h => ⟨(Hal8.out h).1, (Hal8.out h).2.1, (Hal8.out h).2.2.kept hb⟩), (fun h => ⟨(Hal9.out h).1, (Hal9.out h).2.1, (Hal9.out h).2.2.kept hb⟩), Hne8_9.out, (fun h => ⟨(Hst10.out h).1, rfl, (Hst10.out h).2.2⟩), (fun h => ⟨(Hst11.out h).1, rfl, (Hst11.out h).2.2⟩)⟩
            | 6, _, hi =>
              have hb : b6 = false := (mem_ready.1 hi).1
              subst hb
              have hS2 := hide (hS.kept (Bel.one w' (.cells #[.int .i64 a.kind, .int .i64 a.num, .string a.str, .int .i64 c.kind, .int .i64 c.num, .string c.str] 26)))
              have Hsl2 := hide hsl2
              have Hsl6 := hide hsl6
              have Hca3 := hide hca3
              have Hca7 := hide hca7
              have Hal8 := hide hal8
              have Hal9 := hide hal9
              have Hne8_9 := hide hne8_9
              have Hst10 := hide hst10
              have Hst11 := hide hst11
              have HN := hide (hp_new w' #[.int .i64 a.kind, .int .i64 a.num, .string a.str, .int .i64 c.kind, .int .i64 c.num, .string c.str] 26)
              clear hi hS hlt hsl2 hsl6 hca3 hca7 hal8 hal9 hne8_9 hst10 hst11
              refine wpOp_step nth6 (fun K hK' => ?_)
              have hK := hide hK'
              clear hK'
              (try simp only [puts]); (try simp only [Act.put]); (try simp only [List.setIfInBounds_toArray]); (try simp only [List.set_cons_succ, List.set_cons_zero])
              go_simp
              refine hK.out _ _ ⟨hS2.out, [v46, v47, .slice (some ⟨w'.heap.size, 0, none⟩) 2 2, v51, p14, p15], rfl, b2, b3, true, b7, b8, b9, b10, b11, _, _, _, _, _, _, gs2, w'.heap.size, ga8, ga9, rfl, rfl, hS2.out, (fun h1 h2 => ⟨(Hsl2.out h1 h2).1, (Hsl2.out h1 h2).2.kept (Bel.one _ _)⟩), (fun _ _ => ⟨rfl, HN.out⟩), Hca3.out, Hca7.out, (fun h => ⟨(Hal8.out h).1, (Hal8.out h).2.1, (Hal8.out h).2.2.kept (Bel.one _ _)⟩), (fun h => ⟨(Hal9.out h).1, (Hal9.out h).2.1, (Hal9.out h).2.2.kept (Bel.one _ _)⟩), Hne8_9.out, Hst10.out, Hst11.out⟩
            | 7, _, hi =>
              have hb : b7 = false := (mem_ready.1 hi).1
              subst hb
              have hbs : b6 = true := (ready_get hi nth7).2 ⟨6, .data⟩ (by simp) rfl
              obtain ⟨hve, hR⟩ := hsl6 hbs rfl
              have HR := hide (row2 a c hR)
              have HSS := hide hS
              have Hsl2 := hide hsl2
              have Hsl6 := hide hsl6
              have Hca3 := hide hca3
              have Hca7 := hide hca7
              have Hal8 := hide hal8
              have Hal9 := hide hal9
              have Hne8_9 := hide hne8_9
              have Hst10 := hide hst10
              have Hst11 := hide hst11
              clear hi hS hlt hR hsl2 hsl6 hca3 hca7 hal8 hal9 hne8_9 hst10 hst11
              subst hve
              refine wpOp_step nth7 (fun K hK' => ?_)
              have hK := hide hK'
              clear hK'
              (try simp only [puts]); (try simp only [Act.put]); (try simp only [List.setIfInBounds_toArray]); (try simp only [List.set_cons_succ, List.set_cons_zero])
              go_simp
              go_at_call 10
              refine (QL.out _ _ HR.out).mono ?_
              rintro e w'' ⟨rfl, hb⟩
              refine hK.out _ _ ⟨(HSS.out.kept hb), [v46, v47, .slice (some ⟨gs6, 0, none⟩) 2 2, .agg #[.int .i64 L.kind, .int .i64 L.num, .string L.str], p14, p15], rfl, b2, b3, b6, true, b8, b9, b10, b11, _, _, _, _, _, _, gs2, gs6, ga8, ga9, rfl, rfl, (HSS.out.kept hb), (fun h1 h2 => ⟨(Hsl2.out h1 h2).1, (Hsl2.out h1 h2).2.kept hb⟩), (fun _ h => Bool.noConfusion h), Hca3.out, (fun _ => rfl), (fun h => ⟨(Hal8.out h).1, (Hal8.out h).2.1, (Hal8.out h).2.2.kept hb⟩), (fun h => ⟨(Hal9.out h).1, (Hal9.out h).2.1, (Hal9.out h).2.2.kept hb⟩), Hne8_9.out, (fun h => ⟨(Hst10.out h).1, (Hst10.out h).2.1, rfl⟩), (fun h => ⟨(Hst11.out h).1, (Hst11.out h).2.1, rfl⟩)⟩
            | 8, _, hi =>
              have hb : b8 = false := (mem_ready.1 hi).1
              subst hb
              have hbst : b10 = false := by
                cases h : b10 with
                | false => rfl
                | true => exact Bool.noConfusion (hst10 h).1
              subst hbst
              have hS2 := hide (hS.kept (Bel.one w' zO))
              have HF := hide hS.fresh
              have HN := hide (vb_one w')
              have Hsl2 := hide hsl2
              have Hsl6 := hide hsl6
              have Hca3 := hide hca3
              have Hca7 := hide hca7
              have Hal8 := hide hal8
              have Hal9 := hide hal9
              have Hne8_9 := hide hne8_9
              have Hst10 := hide hst10
              have Hst11 := hide hst11
              clear hi hS hlt hsl2 hsl6 hca3 hca7 hal8 hal9 hne8_9 hst10 hst11
              refine wpOp_step nth8 (fun K hK' => ?_)
              have hK := hide hK'
              clear hK'
              (try simp only [puts]); (try simp only [Act.put]); (try simp only [List.setIfInBounds_toArray]); (try simp only [List.set_cons_succ, List.set_cons_zero])
              go_simp
              refine hK.out _ _ ⟨hS2.out, [v46, v47, v50, v51, .pointer (some ⟨w'.heap.size, 0, none⟩), p15], rfl, b2, b3, b6, b7, true, b9, false, b11, _, _, _, _, _, _, gs2, gs6, w'.heap.size, ga9, rfl, rfl, hS2.out, (fun h1 h2 => ⟨(Hsl2.out h1 h2).1, (Hsl2.out h1 h2).2.kept (Bel.one _ _)⟩), (fun h1 h2 => ⟨(Hsl6.out h1 h2).1, (Hsl6.out h1 h2).2.kept (Bel.one _ _)⟩), Hca3.out, Hca7.out, (fun _ => ⟨rfl, HF.out, HN.out⟩), (fun h => ⟨(Hal9.out h).1, (Hal9.out h).2.1, (Hal9.out h).2.2.kept (Bel.one _ _)⟩), (fun _ h => Nat.ne_of_gt (Hal9.out h).2.2.lt), (fun h => Bool.noConfusion h), Hst11.out⟩
            | 9, _, hi =>
              have hb : b9 = false := (mem_ready.1 hi).1
              subst hb
              have hbst : b11 = false := by
                cases h : b11 with
                | false => rfl
                | true => exact Bool.noConfusion (hst11 h).1
              subst hbst
              have hS2 := hide (hS.kept (Bel.one w' zO))
              have HF := hide hS.fresh
              have HN := hide (vb_one w')
              have Hsl2 := hide hsl2
              have Hsl6 := hide hsl6
              have Hca3 := hide hca3
              have Hca7 := hide hca7
              have Hal8 := hide hal8
              have Hal9 := hide hal9
              have Hne8_9 := hide hne8_9
              have Hst10 := hide hst10
              have Hst11 := hide hst11
              clear hi hS hlt hsl2 hsl6 hca3 hca7 hal8 hal9 hne8_9 hst10 hst11
              refine wpOp_step nth9 (fun K hK' => ?_)
              have hK := hide hK'
              clear hK'
              (try simp only [puts]); (try simp only [Act.put]); (try simp only [List.setIfInBounds_toArray]); (try simp only [List.set_cons_succ, List.set_cons_zero])
              go_simp
              refine hK.out _ _ ⟨hS2.out, [v46, v47, v50, v51, p14, .pointer (some ⟨w'.heap.size, 0, none⟩)], rfl, b2, b3, b6, b7, b8, true, b10, false, _, _, _, _, _, _, gs2, gs6, ga8, w'.heap.size, rfl, rfl, hS2.out, (fun h1 h2 => ⟨(Hsl2.out h1 h2).1, (Hsl2.out h1 h2).2.kept (Bel.one _ _)⟩), (fun h1 h2 => ⟨(Hsl6.out h1 h2).1, (Hsl6.out h1 h2).2.kept (Bel.one _ _)⟩), Hca3.out, Hca7.out, (fun h => ⟨(Hal8.out h).1, (Hal8.out h).2.1, (Hal8.out h).2.2.kept (Bel.one _ _)⟩), (fun _ => ⟨rfl, HF.out, HN.out⟩), (fun h _ => Nat.ne_of_lt (Hal8.out h).2.2.lt), Hst10.out, (fun h => Bool.noConfusion h)⟩
            | 10, _, hi =>
              have hb : b10 = false := (mem_ready.1 hi).1
              subst hb
              have hb8 : b8 = true := (ready_get hi nth10).2 ⟨8, .data⟩ (by simp) rfl
              have hb3 : b3 = true := (ready_get hi nth10).2 ⟨3, .data⟩ (by simp) rfl
              have hb7 : b7 = true := (ready_get hi nth10).2 ⟨7, .chain⟩ (by simp) rfl
              subst hb8 hb3 hb7
              obtain ⟨hpe, hF, hV⟩ := hal8 rfl
              have hve := hca3 rfl
              have hT := hide (hS.far hF G)
              have hV2 := hide (hV.set3 G)
              have HF := hide hF
              obtain ⟨⟨c0, c1, c2⟩, ⟨y0, y1, y2⟩⟩ := hV.all
              have Hsl2 := hide hsl2
              have Hsl6 := hide hsl6
              have Hca3 := hide hca3
              have Hca7 := hide hca7
              have Hal8 := hide hal8
              have Hal9 := hide hal9
              have Hne8_9 := hide hne8_9
              have Hst10 := hide hst10
              have Hst11 := hide hst11
              clear hi hS hlt hV hF hsl2 hsl6 hca3 hca7 hal8 hal9 hne8_9 hst10 hst11
              subst hpe hve
              refine wpOp_step nth10 (fun K hK' => ?_)
              have hK := hide hK'
              clear hK'
              (try simp only [puts]); (try simp only [Act.put]); (try simp only [List.setIfInBounds_toArray]); (try simp only [List.set_cons_succ, List.set_cons_zero])
              go_simp
              refine hK.out _ _ ⟨hT.out, [v46, .agg #[.int .i64 G.kind, .int .i64 G.num, .string G.str], v50, v51, .pointer (some ⟨ga8, 0, none⟩), p15], rfl, b2, true, b6, true, true, b9, true, b11, _, _, _, _, _, _, gs2, gs6, ga8, ga9, rfl, rfl, hT.out, (fun _ h => Bool.noConfusion h), (fun _ h => Bool.noConfusion h), Hca3.out, Hca7.out, (fun _ => ⟨rfl, HF.out, hV2.out⟩), (fun h => ⟨(Hal9.out h).1, (Hal9.out h).2.1, (Hal9.out h).2.2.far (Hne8_9.out rfl h) G⟩), Hne8_9.out, (fun _ => ⟨rfl, rfl, rfl⟩), Hst11.out⟩
            | 11, _, hi =>
              have hb : b11 = false := (mem_ready.1 hi).1
              subst hb
              have hb9 : b9 = true := (ready_get hi nth11).2 ⟨9, .data⟩ (by simp) rfl
              have hb7 : b7 = true := (ready_get hi nth11).2 ⟨7, .data⟩ (by simp) rfl
              have hb10 : b10 = true := (ready_get hi nth11).2 ⟨10, .chain⟩ (by simp) rfl
              have hb3 : b3 = true := (hst10 hb10).2.1
              subst hb9 hb7 hb10 hb3
              obtain ⟨hpe, hF, hV⟩ := hal9 rfl
              have hve := hca7 rfl
              have hT := hide (hS.far hF L)
              have hV2 := hide (hV.set3 L)
              have HF := hide hF
              obtain ⟨⟨c0, c1, c2⟩, ⟨y0, y1, y2⟩⟩ := hV.all
              have Hsl2 := hide hsl2
              have Hsl6 := hide hsl6
              have Hca3 := hide hca3
              have Hca7 := hide hca7
              have Hal8 := hide hal8
              have Hal9 := hide hal9
              have Hne8_9 := hide hne8_9
              have Hst10 := hide hst10
              have Hst11 := hide hst11
              clear hi hS hlt hV hF hsl2 hsl6 hca3 hca7 hal8 hal9 hne8_9 hst10 hst11
              subst hpe hve
              refine wpOp_step nth11 (fun K hK' => ?_)
              have hK := hide hK'
              clear hK'
              (try simp only [puts]); (try simp only [Act.put]); (try simp only [List.setIfInBounds_toArray]); (try simp only [List.set_cons_succ, List.set_cons_zero])
              go_simp
              refine hK.out _ _ ⟨hT.out, [v46, v47, v50, .agg #[.int .i64 L.kind, .int .i64 L.num, .string L.str], p14, .pointer (some ⟨ga9, 0, none⟩)], rfl, b2, true, b6, true, b8, true, true, true, _, _, _, _, _, _, gs2, gs6, ga8, ga9, rfl, rfl, hT.out, (fun _ h => Bool.noConfusion h), (fun _ h => Bool.noConfusion h), Hca3.out, Hca7.out, (fun h => ⟨(Hal8.out h).1, (Hal8.out h).2.1, (Hal8.out h).2.2.far (Hne8_9.out h rfl).symm L⟩), (fun _ => ⟨rfl, HF.out, hV2.out⟩), Hne8_9.out, Hst10.out, (fun _ => ⟨rfl, rfl, rfl⟩)⟩
          · rintro listed vs w' ⟨b2, b3, b6, b7, b8, b9, b10, b11, v46, v47, v50, v51, p14, p15, gs2, gs6, ga8, ga9, rfl, rfl, hS, hsl2, hsl6, hca3, hca7, hal8, hal9, hne8_9, hst10, hst11⟩ hr
            have e2 : b2 = true := ready_put hr nth2 (by simp)
            have e6 : b6 = true := ready_put hr nth6 (by simp [e2])
            have e8 : b8 = true := ready_put hr nth8 (by simp [e2, e6])
            have e9 : b9 = true := ready_put hr nth9 (by simp [e2, e6, e8])
            have e3 : b3 = true := ready_put hr nth3 (by simp [e2, e6, e8, e9])
            have e7 : b7 = true := ready_put hr nth7 (by simp [e2, e6, e8, e9, e3])
            have e10 : b10 = true := ready_put hr nth10 (by simp [e2, e6, e8, e9, e3, e7])
            have e11 : b11 = true := ready_put hr nth11 (by simp [e2, e6, e8, e9, e3, e7, e10])
            obtain ⟨hpe8, hF8, hV8⟩ := hal8 e8
            rw [e10, if_pos rfl] at hV8
            subst hpe8
            obtain ⟨hpe9, hF9, hV9⟩ := hal9 e9
            rw [e11, if_pos rfl] at hV9
            subst hpe9
            (try simp only [puts]); (try simp only [Act.put]); (try simp only [List.setIfInBounds_toArray]); (try simp only [List.set_cons_succ, List.set_cons_zero])
            go_wp2_with fail
            go_meet
            case rel => exact ⟨ga8, ga9, rfl, rfl, (hS.add hV8).add hV9⟩
        case rest =>
          clear HS0
          obtain ⟨gg, gl, rfl, rfl, HT⟩ := hcut
          have HS0 := hide HT
          clear HT
          go_upto_region 11 with (fail)
          go_cut [16] from 52 to 55 (fun p wx => ∃ gu, p = .pointer (some ⟨gu, 0, none⟩) ∧ TS w (w.heap.size + 3) (w.heap.size + 4) [(gu, U), (gl, L), (gg, G), (gn, N), (gx, X), (w.heap.size, a), (w.heap.size + 1, b), (w.heap.size + 2, c)] wx)
          case first =>
            have A0 := (HS0.out.vb (gg, G) (by simp)).all
            obtain ⟨⟨_, _, _⟩, _⟩ := A0
            have A1 := (HS0.out.vb (gl, L) (by simp)).all
            obtain ⟨⟨_, _, _⟩, _⟩ := A1
            have HB1 := hide (Bel.one wc (.cells #[.int .i64 G.kind, .int .i64 G.num, .string G.str, .int .i64 L.kind, .int .i64 L.num, .string L.str] 26))
            go_wp2_with fail
            refine (QU.out _ _ (row2 G L (hp_new _ _ _))).mono ?_
            rintro e w2 ⟨rfl, hb⟩
            have HT2 := hide (HS0.out.kept (Bel.then HB1.out hb))
            clear hb HB1
            have HT3 := hide (HT2.out.kept (Bel.one w2 (vO U.kind U.num U.str)))
            have HV : Hid (VB (w2.alloc (vO U.kind U.num U.str)) w2.heap.size U) := vb_new w2 _ _ _
            obtain ⟨⟨c0, c1, c2⟩, ⟨y0, y1, y2⟩⟩ := (vb_one w2).all
            go_wp2_with fail
            go_meet
            case rel => exact ⟨_, rfl, HT3.out.add HV.out⟩
          case rest =>
            clear HS0
            obtain ⟨gu, rfl, HT⟩ := hcut
            have HS0 := hide HT
            clear HT
            go_upto_region 12 with (fail)
            refine wp_region_held_drew (S := (fun w' => TS w (w.heap.size + 3) (w.heap.size + 4) [(gu, U), (gl, L), (gg, G), (gn, N), (gx, X), (w.heap.size, a), (w.heap.size + 1, b), (w.heap.size + 2, c)] w')) (by kernel_rfl) (HS0.out.kept (Below.refl _ _).drew) (fun hHeld => ?_)
            refine wpAnyH_ready (rs := [0]) (by kernel_rfl) (by simp) ?_
            refine AllReadyH.cons nth0 (fun K hK => ?_) AllReadyH.nil
            go_simp
            (first | (go_at_call 9; refine (awake_c _).mono ?_; rintro e w' ⟨rfl, hb⟩) | (go_at_call 10; with_reducible refine (QB.out _ _ (row3 a b c (hp_new _ _ _))).mono ?_; rintro e w' ⟨rfl, hb⟩) | (go_at_call 10; with_reducible refine (QY.out _ _ (row2 a b (hp_new _ _ _))).mono ?_; rintro e w' ⟨rfl, hb⟩) | (go_at_call 10; with_reducible refine (QZ.out _ _ (row2 b a (hp_new _ _ _))).mono ?_; rintro e w' ⟨rfl, hb⟩) | (go_at_call 20; with_reducible refine (QF.out _ _).mono ?_; rintro e w' ⟨rfl, hb⟩) | (go_at_call 21; with_reducible refine (QA.out _ _ _).mono ?_; rintro e w' ⟨rfl, rfl⟩; have hb := Below.refl w'.heap.size w'))
            refine hK.out _ _ (hHeld.kept hb) (fun hHeld => ?_)
            clear hK K
            (try simp only [Act.put]); (try simp only [List.setIfInBounds_toArray]); (try simp only [List.set_cons_succ]); (try simp only [List.set_cons_zero])
            first | (refine wpAnyH_take (i := 1) (v := ?_) nth1 (by kernel_rfl) (by kernel_rfl) (by kernel_rfl) (fun _ _ _ h => h) (Or.inl ⟨by rfl, ?_⟩) hHeld ?_; rotate_left; focus (intro wS hSw; (have A := (hSw.vb (w.heap.size, a) (by simp)).all; have B := (hSw.vb (w.heap.size + 1, b) (by simp)).all; have C := (hSw.vb (w.heap.size + 2, c) (by simp)).all; have D := (hSw.vb (gx, X) (by simp)).all; have E := (hSw.vb (gn, N) (by simp)).all; have F := (hSw.vb (gg, G) (by simp)).all; have H := (hSw.vb (gl, L) (by simp)).all; have I := (hSw.vb (gu, U) (by simp)).all; obtain ⟨⟨_, _, _⟩, _⟩ := A; obtain ⟨⟨_, _, _⟩, _⟩ := B; obtain ⟨⟨_, _, _⟩, _⟩ := C; obtain ⟨⟨_, _, _⟩, _⟩ := D; obtain ⟨⟨_, _, _⟩, _⟩ := E; obtain ⟨⟨_, _, _⟩, _⟩ := F; obtain ⟨⟨_, _, _⟩, _⟩ := H; obtain ⟨⟨_, _, _⟩, _⟩ := I; have oy := hp_cell hSw.ho HOY.out; have sz := hp_cell hSw.hs HOZ.out; have q1 := E1.out; have q2 := E2.out; have q3 := E3.out; have q4 := HUf.out); go_simp; try with_reducible rfl; done)) | (refine wpAnyH_take (i := 1) (v := undef) nth1 (by kernel_rfl) (by kernel_rfl) (by kernel_rfl) (fun _ _ _ h => h) (Or.inr ⟨by rfl, rfl⟩) hHeld ?_)
            (try simp only [Act.put]); (try simp only [List.setIfInBounds_toArray]); (try simp only [List.set_cons_succ]); (try simp only [List.set_cons_zero])
            first | (refine wpAnyH_take (i := 2) (v := ?_) nth2 (by kernel_rfl) (by kernel_rfl) (by kernel_rfl) (fun _ _ _ h => h) (Or.inl ⟨by rfl, ?_⟩) hHeld ?_; rotate_left; focus (intro wS hSw; (have A := (hSw.vb (w.heap.size, a) (by simp)).all; have B := (hSw.vb (w.heap.size + 1, b) (by simp)).all; have C := (hSw.vb (w.heap.size + 2, c) (by simp)).all; have D := (hSw.vb (gx, X) (by simp)).all; have E := (hSw.vb (gn, N) (by simp)).all; have F := (hSw.vb (gg, G) (by simp)).all; have H := (hSw.vb (gl, L) (by simp)).all; have I := (hSw.vb (gu, U) (by simp)).all; obtain ⟨⟨_, _, _⟩, _⟩ := A; obtain ⟨⟨_, _, _⟩, _⟩ := B; obtain ⟨⟨_, _, _⟩, _⟩ := C; obtain ⟨⟨_, _, _⟩, _⟩ := D; obtain ⟨⟨_, _, _⟩, _⟩ := E; obtain ⟨⟨_, _, _⟩, _⟩ := F; obtain ⟨⟨_, _, _⟩, _⟩ := H; obtain ⟨⟨_, _, _⟩, _⟩ := I; have oy := hp_cell hSw.ho HOY.out; have sz := hp_cell hSw.hs HOZ.out; have q1 := E1.out; have q2 := E2.out; have q3 := E3.out; have q4 := HUf.out); go_simp; try with_reducible rfl; done)) | (refine wpAnyH_take (i := 2) (v := undef) nth2 (by kernel_rfl) (by kernel_rfl) (by kernel_rfl) (fun _ _ _ h => h) (Or.inr ⟨by rfl, rfl⟩) hHeld ?_)
            (try simp only [Act.put]); (try simp only [List.setIfInBounds_toArray]); (try simp only [List.set_cons_succ]); (try simp only [List.set_cons_zero])
            first | (refine wpAnyH_take (i := 3) (v := ?_) nth3 (by kernel_rfl) (by kernel_rfl) (by kernel_rfl) (fun _ _ _ h => h) (Or.inl ⟨by rfl, ?_⟩) hHeld ?_; rotate_left; focus (intro wS hSw; (have A := (hSw.vb (w.heap.size, a) (by simp)).all; have B := (hSw.vb (w.heap.size + 1, b) (by simp)).all; have C := (hSw.vb (w.heap.size + 2, c) (by simp)).all; have D := (hSw.vb (gx, X) (by simp)).all; have E := (hSw.vb (gn, N) (by simp)).all; have F := (hSw.vb (gg, G) (by simp)).all; have H := (hSw.vb (gl, L) (by simp)).all; have I := (hSw.vb (gu, U) (by simp)).all; obtain ⟨⟨_, _, _⟩, _⟩ := A; obtain ⟨⟨_, _, _⟩, _⟩ := B; obtain ⟨⟨_, _, _⟩, _⟩ := C; obtain ⟨⟨_, _, _⟩, _⟩ := D; obtain ⟨⟨_, _, _⟩, _⟩ := E; obtain ⟨⟨_, _, _⟩, _⟩ := F; obtain ⟨⟨_, _, _⟩, _⟩ := H; obtain ⟨⟨_, _, _⟩, _⟩ := I; have oy := hp_cell hSw.ho HOY.out; have sz := hp_cell hSw.hs HOZ.out; have q1 := E1.out; have q2 := E2.out; have q3 := E3.out; have q4 := HUf.out); go_simp; try with_reducible rfl; done)) | (refine wpAnyH_take (i := 3) (v := undef) nth3 (by kernel_rfl) (by kernel_rfl) (by kernel_rfl) (fun _ _ _ h => h) (Or.inr ⟨by rfl, rfl⟩) hHeld ?_)
            (try simp only [Act.put]); (try simp only [List.setIfInBounds_toArray]); (try simp only [List.set_cons_succ]); (try simp only [List.set_cons_zero])
            first | (refine wpAnyH_take (i := 4) (v := ?_) nth4 (by kernel_rfl) (by kernel_rfl) (by kernel_rfl) (fun _ _ _ h => h) (Or.inl ⟨by rfl, ?_⟩) hHeld ?_; rotate_left; focus (intro wS hSw; (have A := (hSw.vb (w.heap.size, a) (by simp)).all; have B := (hSw.vb (w.heap.size + 1, b) (by simp)).all; have C := (hSw.vb (w.heap.size + 2, c) (by simp)).all; have D := (hSw.vb (gx, X) (by simp)).all; have E := (hSw.vb (gn, N) (by simp)).all; have F := (hSw.vb (gg, G) (by simp)).all; have H := (hSw.vb (gl, L) (by simp)).all; have I := (hSw.vb (gu, U) (by simp)).all; obtain ⟨⟨_, _, _⟩, _⟩ := A; obtain ⟨⟨_, _, _⟩, _⟩ := B; obtain ⟨⟨_, _, _⟩, _⟩ := C; obtain ⟨⟨_, _, _⟩, _⟩ := D; obtain ⟨⟨_, _, _⟩, _⟩ := E; obtain ⟨⟨_, _, _⟩, _⟩ := F; obtain ⟨⟨_, _, _⟩, _⟩ := H; obtain ⟨⟨_, _, _⟩, _⟩ := I; have oy := hp_cell hSw.ho HOY.out; have sz := hp_cell hSw.hs HOZ.out; have q1 := E1.out; have q2 := E2.out; have q3 := E3.out; have q4 := HUf.out); go_simp; try with_reducible rfl; done)) | (refine wpAnyH_take (i := 4) (v := undef) nth4 (by kernel_rfl) (by kernel_rfl) (by kernel_rfl) (fun _ _ _ h => h) (Or.inr ⟨by rfl, rfl⟩) hHeld ?_)
            (try simp only [Act.put]); (try simp only [List.setIfInBounds_toArray]); (try simp only [List.set_cons_succ]); (try simp only [List.set_cons_zero])
            first | (refine wpAnyH_take (i := 5) (v := ?_) nth5 (by kernel_rfl) (by kernel_rfl) (by kernel_rfl) (fun _ _ _ h => h) (Or.inl ⟨by rfl, ?_⟩) hHeld ?_; rotate_left; focus (intro wS hSw; (have A := (hSw.vb (w.heap.size, a) (by simp)).all; have B := (hSw.vb (w.heap.size + 1, b) (by simp)).all; have C := (hSw.vb (w.heap.size + 2, c) (by simp)).all; have D := (hSw.vb (gx, X) (by simp)).all; have E := (hSw.vb (gn, N) (by simp)).all; have F := (hSw.vb (gg, G) (by simp)).all; have H := (hSw.vb (gl, L) (by simp)).all; have I := (hSw.vb (gu, U) (by simp)).all; obtain ⟨⟨_, _, _⟩, _⟩ := A; obtain ⟨⟨_, _, _⟩, _⟩ := B; obtain ⟨⟨_, _, _⟩, _⟩ := C; obtain ⟨⟨_, _, _⟩, _⟩ := D; obtain ⟨⟨_, _, _⟩, _⟩ := E; obtain ⟨⟨_, _, _⟩, _⟩ := F; obtain ⟨⟨_, _, _⟩, _⟩ := H; obtain ⟨⟨_, _, _⟩, _⟩ := I; have oy := hp_cell hSw.ho HOY.out; have sz := hp_cell hSw.hs HOZ.out; have q1 := E1.out; have q2 := E2.out; have q3 := E3.out; have q4 := HUf.out); go_simp; try with_reducible rfl; done)) | (refine wpAnyH_take (i := 5) (v := undef) nth5 (by kernel_rfl) (by kernel_rfl) (by kernel_rfl) (fun _ _ _ h => h) (Or.inr ⟨by rfl, rfl⟩) hHeld ?_)
            (try simp only [Act.put]); (try simp only [List.setIfInBounds_toArray]); (try simp only [List.set_cons_succ]); (try simp only [List.set_cons_zero])
            first | (refine wpAnyH_take (i := 6) (v := ?_) nth6 (by kernel_rfl) (by kernel_rfl) (by kernel_rfl) (fun _ _ _ h => h) (Or.inl ⟨by rfl, ?_⟩) hHeld ?_; rotate_left; focus (intro wS hSw; (have A := (hSw.vb (w.heap.size, a) (by simp)).all; have B := (hSw.vb (w.heap.size + 1, b) (by simp)).all; have C := (hSw.vb (w.heap.size + 2, c) (by simp)).all; have D := (hSw.vb (gx, X) (by simp)).all; have E := (hSw.vb (gn, N) (by simp)).all; have F := (hSw.vb (gg, G) (by simp)).all; have H := (hSw.vb (gl, L) (by simp)).all; have I := (hSw.vb (gu, U) (by simp)).all; obtain ⟨⟨_, _, _⟩, _⟩ := A; obtain ⟨⟨_, _, _⟩, _⟩ := B; obtain ⟨⟨_, _, _⟩, _⟩ := C; obtain ⟨⟨_, _, _⟩, _⟩ := D; obtain ⟨⟨_, _, _⟩, _⟩ := E; obtain ⟨⟨_, _, _⟩, _⟩ := F; obtain ⟨⟨_, _, _⟩, _⟩ := H; obtain ⟨⟨_, _, _⟩, _⟩ := I; have oy := hp_cell hSw.ho HOY.out; have sz := hp_cell hSw.hs HOZ.out; have q1 := E1.out; have q2 := E2.out; have q3 := E3.out; have q4 := HUf.out); go_simp; try with_reducible rfl; done)) | (refine wpAnyH_take (i := 6) (v := undef) nth6 (by kernel_rfl) (by kernel_rfl) (by kernel_rfl) (fun _ _ _ h => h) (Or.inr ⟨by rfl, rfl⟩) hHeld ?_)
            (try simp only [Act.put]); (try simp only [List.setIfInBounds_toArray]); (try simp only [List.set_cons_succ]); (try simp only [List.set_cons_zero])
            first | (refine wpAnyH_take (i := 7) (v := ?_) nth7 (by kernel_rfl) (by kernel_rfl) (by kernel_rfl) (fun _ _ _ h => h) (Or.inl ⟨by rfl, ?_⟩) hHeld ?_; rotate_left; focus (intro wS hSw; (have A := (hSw.vb (w.heap.size, a) (by simp)).all; have B := (hSw.vb (w.heap.size + 1, b) (by simp)).all; have C := (hSw.vb (w.heap.size + 2, c) (by simp)).all; have D := (hSw.vb (gx, X) (by simp)).all; have E := (hSw.vb (gn, N) (by simp)).all; have F := (hSw.vb (gg, G) (by simp)).all; have H := (hSw.vb (gl, L) (by simp)).all; have I := (hSw.vb (gu, U) (by simp)).all; obtain ⟨⟨_, _, _⟩, _⟩ := A; obtain ⟨⟨_, _, _⟩, _⟩ := B; obtain ⟨⟨_, _, _⟩, _⟩ := C; obtain ⟨⟨_, _, _⟩, _⟩ := D; obtain ⟨⟨_, _, _⟩, _⟩ := E; obtain ⟨⟨_, _, _⟩, _⟩ := F; obtain ⟨⟨_, _, _⟩, _⟩ := H; obtain ⟨⟨_, _, _⟩, _⟩ := I; have oy := hp_cell hSw.ho HOY.out; have sz := hp_cell hSw.hs HOZ.out; have q1 := E1.out; have q2 := E2.out; have q3 := E3.out; have q4 := HUf.out); go_simp; try with_reducible rfl; done)) | (refine wpAnyH_take (i := 7) (v := undef) nth7 (by kernel_rfl) (by kernel_rfl) (by kernel_rfl) (fun _ _ _ h => h) (Or.inr ⟨by rfl, rfl⟩) hHeld ?_)
            (try simp only [Act.put]); (try simp only [List.setIfInBounds_toArray]); (try simp only [List.set_cons_succ]); (try simp only [List.set_cons_zero])
            first | (refine wpAnyH_take (i := 8) (v := ?_) nth8 (by kernel_rfl) (by kernel_rfl) (by kernel_rfl) (fun _ _ _ h => h) (Or.inl ⟨by rfl, ?_⟩) hHeld ?_; rotate_left; focus (intro wS hSw; (have A := (hSw.vb (w.heap.size, a) (by simp)).all; have B := (hSw.vb (w.heap.size + 1, b) (by simp)).all; have C := (hSw.vb (w.heap.size + 2, c) (by simp)).all; have D := (hSw.vb (gx, X) (by simp)).all; have E := (hSw.vb (gn, N) (by simp)).all; have F := (hSw.vb (gg, G) (by simp)).all; have H := (hSw.vb (gl, L) (by simp)).all; have I := (hSw.vb (gu, U) (by simp)).all; obtain ⟨⟨_, _, _⟩, _⟩ := A; obtain ⟨⟨_, _, _⟩, _⟩ := B; obtain ⟨⟨_, _, _⟩, _⟩ := C; obtain ⟨⟨_, _, _⟩, _⟩ := D; obtain ⟨⟨_, _, _⟩, _⟩ := E; obtain ⟨⟨_, _, _⟩, _⟩ := F; obtain ⟨⟨_, _, _⟩, _⟩ := H; obtain ⟨⟨_, _, _⟩, _⟩ := I; have oy := hp_cell hSw.ho HOY.out; have sz := hp_cell hSw.hs HOZ.out; have q1 := E1.out; have q2 := E2.out; have q3 := E3.out; have q4 := HUf.out); go_simp; try with_reducible rfl; done)) | (refine wpAnyH_take (i := 8) (v := undef) nth8 (by kernel_rfl) (by kernel_rfl) (by kernel_rfl) (fun _ _ _ h => h) (Or.inr ⟨by rfl, rfl⟩) hHeld ?_)
            (try simp only [Act.put]); (try simp only [List.setIfInBounds_toArray]); (try simp only [List.set_cons_succ]); (try simp only [List.set_cons_zero])
            refine wpAnyH_ready (rs := [9]) (by kernel_rfl) (by simp) ?_
            refine AllReadyH.cons nth9 (fun K hK => ?_) AllReadyH.nil
            go_simp
            refine hK.out _ _ (hHeld.kept (Bel.one _ _)) (fun hHeld => ?_)
            clear hK K
            (try simp only [Act.put]); (try simp only [List.setIfInBounds_toArray]); (try simp only [List.set_cons_succ]); (try simp only [List.set_cons_zero])
            refine wpAnyH_ready (rs := [10]) (by kernel_rfl) (by simp) ?_
            refine AllReadyH.cons nth10 (fun K hK => ?_) AllReadyH.nil
            go_simp
            (first | (go_at_call 9; refine (awake_c _).mono ?_; rintro e w' ⟨rfl, hb⟩) | (go_at_call 10; with_reducible refine (QB.out _ _ (row3 a b c (hp_new _ _ _))).mono ?_; rintro e w' ⟨rfl, hb⟩) | (go_at_call 10; with_reducible refine (QY.out _ _ (row2 a b (hp_new _ _ _))).mono ?_; rintro e w' ⟨rfl, hb⟩) | (go_at_call 10; with_reducible refine (QZ.out _ _ (row2 b a (hp_new _ _ _))).mono ?_; rintro e w' ⟨rfl, hb⟩) | (go_at_call 20; with_reducible refine (QF.out _ _).mono ?_; rintro e w' ⟨rfl, hb⟩) | (go_at_call 21; with_reducible refine (QA.out _ _ _).mono ?_; rintro e w' ⟨rfl, rfl⟩; have hb := Below.refl w'.heap.size w'))
            refine hK.out _ _ (hHeld.kept hb) (fun hHeld => ?_)
            clear hK K
            (try simp only [Act.put]); (try simp only [List.setIfInBounds_toArray]); (try simp only [List.set_cons_succ]); (try simp only [List.set_cons_zero])
            first | (refine wpAnyH_take (i := 11) (v := ?_) nth11 (by kernel_rfl) (by kernel_rfl) (by kernel_rfl) (fun _ _ _ h => h) (Or.inl ⟨by rfl, ?_⟩) hHeld ?_; rotate_left; focus (intro wS hSw; (have A := (hSw.vb (w.heap.size, a) (by simp)).all; have B := (hSw.vb (w.heap.size + 1, b) (by simp)).all; have C := (hSw.vb (w.heap.size + 2, c) (by simp)).all; have D := (hSw.vb (gx, X) (by simp)).all; have E := (hSw.vb (gn, N) (by simp)).all; have F := (hSw.vb (gg, G) (by simp)).all; have H := (hSw.vb (gl, L) (by simp)).all; have I := (hSw.vb (gu, U) (by simp)).all; obtain ⟨⟨_, _, _⟩, _⟩ := A; obtain ⟨⟨_, _, _⟩, _⟩ := B; obtain ⟨⟨_, _, _⟩, _⟩ := C; obtain ⟨⟨_, _, _⟩, _⟩ := D; obtain ⟨⟨_, _, _⟩, _⟩ := E; obtain ⟨⟨_, _, _⟩, _⟩ := F; obtain ⟨⟨_, _, _⟩, _⟩ := H; obtain ⟨⟨_, _, _⟩, _⟩ := I; have oy := hp_cell hSw.ho HOY.out; have sz := hp_cell hSw.hs HOZ.out; have q1 := E1.out; have q2 := E2.out; have q3 := E3.out; have q4 := HUf.out); go_simp; try with_reducible rfl; done)) | (refine wpAnyH_take (i := 11) (v := undef) nth11 (by kernel_rfl) (by kernel_rfl) (by kernel_rfl) (fun _ _ _ h => h) (Or.inr ⟨by rfl, rfl⟩) hHeld ?_)
            (try simp only [Act.put]); (try simp only [List.setIfInBounds_toArray]); (try simp only [List.set_cons_succ]); (try simp only [List.set_cons_zero])
            first | (refine wpAnyH_take (i := 12) (v := ?_) nth12 (by kernel_rfl) (by kernel_rfl) (by kernel_rfl) (fun _ _ _ h => h) (Or.inl ⟨by rfl, ?_⟩) hHeld ?_; rotate_left; focus (intro wS hSw; (have A := (hSw.vb (w.heap.size, a) (by simp)).all; have B := (hSw.vb (w.heap.size + 1, b) (by simp)).all; have C := (hSw.vb (w.heap.size + 2, c) (by simp)).all; have D := (hSw.vb (gx, X) (by simp)).all; have E := (hSw.vb (gn, N) (by simp)).all; have F := (hSw.vb (gg, G) (by simp)).all; have H := (hSw.vb (gl, L) (by simp)).all; have I := (hSw.vb (gu, U) (by simp)).all; obtain ⟨⟨_, _, _⟩, _⟩ := A; obtain ⟨⟨_, _, _⟩, _⟩ := B; obtain ⟨⟨_, _, _⟩, _⟩ := C; obtain ⟨⟨_, _, _⟩, _⟩ := D; obtain ⟨⟨_, _, _⟩, _⟩ := E; obtain ⟨⟨_, _, _⟩, _⟩ := F; obtain ⟨⟨_, _, _⟩, _⟩ := H; obtain ⟨⟨_, _, _⟩, _⟩ := I; have oy := hp_cell hSw.ho HOY.out; have sz := hp_cell hSw.hs HOZ.out; have q1 := E1.out; have q2 := E2.out; have q3 := E3.out; have q4 := HUf.out); go_simp; try with_reducible rfl; done)) | (refine wpAnyH_take (i := 12) (v := undef) nth12 (by kernel_rfl) (by kernel_rfl) (by kernel_rfl) (fun _ _ _ h => h) (Or.inr ⟨by rfl, rfl⟩) hHeld ?_)
            (try simp only [Act.put]); (try simp only [List.setIfInBounds_toArray]); (try simp only [List.set_cons_succ]); (try simp only [List.set_cons_zero])
            first | (refine wpAnyH_take (i := 13) (v := ?_) nth13 (by kernel_rfl) (by kernel_rfl) (by kernel_rfl) (fun _ _ _ h => h) (Or.inl ⟨by rfl, ?_⟩) hHeld ?_; rotate_left; focus (intro wS hSw; (have A := (hSw.vb (w.heap.size, a) (by simp)).all; have B := (hSw.vb (w.heap.size + 1, b) (by simp)).all; have C := (hSw.vb (w.heap.size + 2, c) (by simp)).all; have D := (hSw.vb (gx, X) (by simp)).all; have E := (hSw.vb (gn, N) (by simp)).all; have F := (hSw.vb (gg, G) (by simp)).all; have H := (hSw.vb (gl, L) (by simp)).all; have I := (hSw.vb (gu, U) (by simp)).all; obtain ⟨⟨_, _, _⟩, _⟩ := A; obtain ⟨⟨_, _, _⟩, _⟩ := B; obtain ⟨⟨_, _, _⟩, _⟩ := C; obtain ⟨⟨_, _, _⟩, _⟩ := D; obtain ⟨⟨_, _, _⟩, _⟩ := E; obtain ⟨⟨_, _, _⟩, _⟩ := F; obtain ⟨⟨_, _, _⟩, _⟩ := H; obtain ⟨⟨_, _, _⟩, _⟩ := I; have oy := hp_cell hSw.ho HOY.out; have sz := hp_cell hSw.hs HOZ.out; have q1 := E1.out; have q2 := E2.out; have q3 := E3.out; have q4 := HUf.out); go_simp; try with_reducible rfl; done)) | (refine wpAnyH_take (i := 13) (v := undef) nth13 (by kernel_rfl) (by kernel_rfl) (by kernel_rfl) (fun _ _ _ h => h) (Or.inr ⟨by rfl, rfl⟩) hHeld ?_)
            (try simp only [Act.put]); (try simp only [List.setIfInBounds_toArray]); (try simp only [List.set_cons_succ]); (try simp only [List.set_cons_zero])
            first | (refine wpAnyH_take (i := 14) (v := ?_) nth14 (by kernel_rfl) (by kernel_rfl) (by kernel_rfl) (fun _ _ _ h => h) (Or.inl ⟨by rfl, ?_⟩) hHeld ?_; rotate_left; focus (intro wS hSw; (have A := (hSw.vb (w.heap.size, a) (by simp)).all; have B := (hSw.vb (w.heap.size + 1, b) (by simp)).all; have C := (hSw.vb (w.heap.size + 2, c) (by simp)).all; have D := (hSw.vb (gx, X) (by simp)).all; have E := (hSw.vb (gn, N) (by simp)).all; have F := (hSw.vb (gg, G) (by simp)).all; have H := (hSw.vb (gl, L) (by simp)).all; have I := (hSw.vb (gu, U) (by simp)).all; obtain ⟨⟨_, _, _⟩, _⟩ := A; obtain ⟨⟨_, _, _⟩, _⟩ := B; obtain ⟨⟨_, _, _⟩, _⟩ := C; obtain ⟨⟨_, _, _⟩, _⟩ := D; obtain ⟨⟨_, _, _⟩, _⟩ := E; obtain ⟨⟨_, _, _⟩, _⟩ := F; obtain ⟨⟨_, _, _⟩, _⟩ := H; obtain ⟨⟨_, _, _⟩, _⟩ := I; have oy := hp_cell hSw.ho HOY.out; have sz := hp_cell hSw.hs HOZ.out; have q1 := E1.out; have q2 := E2.out; have q3 := E3.out; have q4 := HUf.out); go_simp; try with_reducible rfl; done)) | (refine wpAnyH_take (i := 14) (v := undef) nth14 (by kernel_rfl) (by kernel_rfl) (by kernel_rfl) (fun _ _ _ h => h) (Or.inr ⟨by rfl, rfl⟩) hHeld ?_)
            (try simp only [Act.put]); (try simp only [List.setIfInBounds_toArray]); (try simp only [List.set_cons_succ]); (try simp only [List.set_cons_zero])
            first | (refine wpAnyH_take (i := 15) (v := ?_) nth15 (by kernel_rfl) (by kernel_rfl) (by kernel_rfl) (fun _ _ _ h => h) (Or.inl ⟨by rfl, ?_⟩) hHeld ?_; rotate_left; focus (intro wS hSw; (have A := (hSw.vb (w.heap.size, a) (by simp)).all; have B := (hSw.vb (w.heap.size + 1, b) (by simp)).all; have C := (hSw.vb (w.heap.size + 2, c) (by simp)).all; have D := (hSw.vb (gx, X) (by simp)).all; have E := (hSw.vb (gn, N) (by simp)).all; have F := (hSw.vb (gg, G) (by simp)).all; have H := (hSw.vb (gl, L) (by simp)).all; have I := (hSw.vb (gu, U) (by simp)).all; obtain ⟨⟨_, _, _⟩, _⟩ := A; obtain ⟨⟨_, _, _⟩, _⟩ := B; obtain ⟨⟨_, _, _⟩, _⟩ := C; obtain ⟨⟨_, _, _⟩, _⟩ := D; obtain ⟨⟨_, _, _⟩, _⟩ := E; obtain ⟨⟨_, _, _⟩, _⟩ := F; obtain ⟨⟨_, _, _⟩, _⟩ := H; obtain ⟨⟨_, _, _⟩, _⟩ := I; have oy := hp_cell hSw.ho HOY.out; have sz := hp_cell hSw.hs HOZ.out; have q1 := E1.out; have q2 := E2.out; have q3 := E3.out; have q4 := HUf.out); go_simp; try with_reducible rfl; done)) | (refine wpAnyH_take (i := 15) (v := undef) nth15 (by kernel_rfl) (by kernel_rfl) (by kernel_rfl) (fun _ _ _ h => h) (Or.inr ⟨by rfl, rfl⟩) hHeld ?_)
            (try simp only [Act.put]); (try simp only [List.setIfInBounds_toArray]); (try simp only [List.set_cons_succ]); (try simp only [List.set_cons_zero])
            first | (refine wpAnyH_take (i := 16) (v := ?_) nth16 (by kernel_rfl) (by kernel_rfl) (by kernel_rfl) (fun _ _ _ h => h) (Or.inl ⟨by rfl, ?_⟩) hHeld ?_; rotate_left; focus (intro wS hSw; (have A := (hSw.vb (w.heap.size, a) (by simp)).all; have B := (hSw.vb (w.heap.size + 1, b) (by simp)).all; have C := (hSw.vb (w.heap.size + 2, c) (by simp)).all; have D := (hSw.vb (gx, X) (by simp)).all; have E := (hSw.vb (gn, N) (by simp)).all; have F := (hSw.vb (gg, G) (by simp)).all; have H := (hSw.vb (gl, L) (by simp)).all; have I := (hSw.vb (gu, U) (by simp)).all; obtain ⟨⟨_, _, _⟩, _⟩ := A; obtain ⟨⟨_, _, _⟩, _⟩ := B; obtain ⟨⟨_, _, _⟩, _⟩ := C; obtain ⟨⟨_, _, _⟩, _⟩ := D; obtain ⟨⟨_, _, _⟩, _⟩ := E; obtain ⟨⟨_, _, _⟩, _⟩ := F; obtain ⟨⟨_, _, _⟩, _⟩ := H; obtain ⟨⟨_, _, _⟩, _⟩ := I; have oy := hp_cell hSw.ho HOY.out; have sz := hp_cell hSw.hs HOZ.out; have q1 := E1.out; have q2 := E2.out; have q3 := E3.out; have q4 := HUf.out); go_simp; try with_reducible rfl; done)) | (refine wpAnyH_take (i := 16) (v := undef) nth16 (by kernel_rfl) (by kernel_rfl) (by kernel_rfl) (fun _ _ _ h => h) (Or.inr ⟨by rfl, rfl⟩) hHeld ?_)
            (try simp only [Act.put]); (try simp only [List.setIfInBounds_toArray]); (try simp only [List.set_cons_succ]); (try simp only [List.set_cons_zero])
            first | (refine wpAnyH_take (i := 17) (v := ?_) nth17 (by kernel_rfl) (by kernel_rfl) (by kernel_rfl) (fun _ _ _ h => h) (Or.inl ⟨by rfl, ?_⟩) hHeld ?_; rotate_left; focus (intro wS hSw; (have A := (hSw.vb (w.heap.size, a) (by simp)).all; have B := (hSw.vb (w.heap.size + 1, b) (by simp)).all; have C := (hSw.vb (w.heap.size + 2, c) (by simp)).all; have D := (hSw.vb (gx, X) (by simp)).all; have E := (hSw.vb (gn, N) (by simp)).all; have F := (hSw.vb (gg, G) (by simp)).all; have H := (hSw.vb (gl, L) (by simp)).all; have I := (hSw.vb (gu, U) (by simp)).all; obtain ⟨⟨_, _, _⟩, _⟩ := A; obtain ⟨⟨_, _, _⟩, _⟩ := B; obtain ⟨⟨_, _, _⟩, _⟩ := C; obtain ⟨⟨_, _, _⟩, _⟩ := D; obtain ⟨⟨_, _, _⟩, _⟩ := E; obtain ⟨⟨_, _, _⟩, _⟩ := F; obtain ⟨⟨_, _, _⟩, _⟩ := H; obtain ⟨⟨_, _, _⟩, _⟩ := I; have oy := hp_cell hSw.ho HOY.out; have sz := hp_cell hSw.hs HOZ.out; have q1 := E1.out; have q2 := E2.out; have q3 := E3.out; have q4 := HUf.out); go_simp; try with_reducible rfl; done)) | (refine wpAnyH_take (i := 17) (v := undef) nth17 (by kernel_rfl) (by kernel_rfl) (by kernel_rfl) (fun _ _ _ h => h) (Or.inr ⟨by rfl, rfl⟩) hHeld ?_)
            (try simp only [Act.put]); (try simp only [List.setIfInBounds_toArray]); (try simp only [List.set_cons_succ]); (try simp only [List.set_cons_zero])
            first | (refine wpAnyH_take (i := 18) (v := ?_) nth18 (by kernel_rfl) (by kernel_rfl) (by kernel_rfl) (fun _ _ _ h => h) (Or.inl ⟨by rfl, ?_⟩) hHeld ?_; rotate_left; focus (intro wS hSw; (have A := (hSw.vb (w.heap.size, a) (by simp)).all; have B := (hSw.vb (w.heap.size + 1, b) (by simp)).all; have C := (hSw.vb (w.heap.size + 2, c) (by simp)).all; have D := (hSw.vb (gx, X) (by simp)).all; have E := (hSw.vb (gn, N) (by simp)).all; have F := (hSw.vb (gg, G) (by simp)).all; have H := (hSw.vb (gl, L) (by simp)).all; have I := (hSw.vb (gu, U) (by simp)).all; obtain ⟨⟨_, _, _⟩, _⟩ := A; obtain ⟨⟨_, _, _⟩, _⟩ := B; obtain ⟨⟨_, _, _⟩, _⟩ := C; obtain ⟨⟨_, _, _⟩, _⟩ := D; obtain ⟨⟨_, _, _⟩, _⟩ := E; obtain ⟨⟨_, _, _⟩, _⟩ := F; obtain ⟨⟨_, _, _⟩, _⟩ := H; obtain ⟨⟨_, _, _⟩, _⟩ := I; have oy := hp_cell hSw.ho HOY.out; have sz := hp_cell hSw.hs HOZ.out; have q1 := E1.out; have q2 := E2.out; have q3 := E3.out; have q4 := HUf.out); go_simp; try with_reducible rfl; done)) | (refine wpAnyH_take (i := 18) (v := undef) nth18 (by kernel_rfl) (by kernel_rfl) (by kernel_rfl) (fun _ _ _ h => h) (Or.inr ⟨by rfl, rfl⟩) hHeld ?_)
            (try simp only [Act.put]); (try simp only [List.setIfInBounds_toArray]); (try simp only [List.set_cons_succ]); (try simp only [List.set_cons_zero])
            first | (refine wpAnyH_take (i := 19) (v := ?_) nth19 (by kernel_rfl) (by kernel_rfl) (by kernel_rfl) (fun _ _ _ h => h) (Or.inl ⟨by rfl, ?_⟩) hHeld ?_; rotate_left; focus (intro wS hSw; (have A := (hSw.vb (w.heap.size, a) (by simp)).all; have B := (hSw.vb (w.heap.size + 1, b) (by simp)).all; have C := (hSw.vb (w.heap.size + 2, c) (by simp)).all; have D := (hSw.vb (gx, X) (by simp)).all; have E := (hSw.vb (gn, N) (by simp)).all; have F := (hSw.vb (gg, G) (by simp)).all; have H := (hSw.vb (gl, L) (by simp)).all; have I := (hSw.vb (gu, U) (by simp)).all; obtain ⟨⟨_, _, _⟩, _⟩ := A; obtain ⟨⟨_, _, _⟩, _⟩ := B; obtain ⟨⟨_, _, _⟩, _⟩ := C; obtain ⟨⟨_, _, _⟩, _⟩ := D; obtain ⟨⟨_, _, _⟩, _⟩ := E; obtain ⟨⟨_, _, _⟩, _⟩ := F; obtain ⟨⟨_, _, _⟩, _⟩ := H; obtain ⟨⟨_, _, _⟩, _⟩ := I; have oy := hp_cell hSw.ho HOY.out; have sz := hp_cell hSw.hs HOZ.out; have q1 := E1.out; have q2 := E2.out; have q3 := E3.out; have q4 := HUf.out); go_simp; try with_reducible rfl; done)) | (refine wpAnyH_take (i := 19) (v := undef) nth19 (by kernel_rfl) (by kernel_rfl) (by kernel_rfl) (fun _ _ _ h => h) (Or.inr ⟨by rfl, rfl⟩) hHeld ?_)
            (try simp only [Act.put]); (try simp only [List.setIfInBounds_toArray]); (try simp only [List.set_cons_succ]); (try simp only [List.set_cons_zero])
            first | (refine wpAnyH_take (i := 20) (v := ?_) nth20 (by kernel_rfl) (by kernel_rfl) (by kernel_rfl) (fun _ _ _ h => h) (Or.inl ⟨by rfl, ?_⟩) hHeld ?_; rotate_left; focus (intro wS hSw; (have A := (hSw.vb (w.heap.size, a) (by simp)).all; have B := (hSw.vb (w.heap.size + 1, b) (by simp)).all; have C := (hSw.vb (w.heap.size + 2, c) (by simp)).all; have D := (hSw.vb (gx, X) (by simp)).all; have E := (hSw.vb (gn, N) (by simp)).all; have F := (hSw.vb (gg, G) (by simp)).all; have H := (hSw.vb (gl, L) (by simp)).all; have I := (hSw.vb (gu, U) (by simp)).all; obtain ⟨⟨_, _, _⟩, _⟩ := A; obtain ⟨⟨_, _, _⟩, _⟩ := B; obtain ⟨⟨_, _, _⟩, _⟩ := C; obtain ⟨⟨_, _, _⟩, _⟩ := D; obtain ⟨⟨_, _, _⟩, _⟩ := E; obtain ⟨⟨_, _, _⟩, _⟩ := F; obtain ⟨⟨_, _, _⟩, _⟩ := H; obtain ⟨⟨_, _, _⟩, _⟩ := I; have oy := hp_cell hSw.ho HOY.out; have sz := hp_cell hSw.hs HOZ.out; have q1 := E1.out; have q2 := E2.out; have q3 := E3.out; have q4 := HUf.out); go_simp; try with_reducible rfl; done)) | (refine wpAnyH_take (i := 20) (v := undef) nth20 (by kernel_rfl) (by kernel_rfl) (by kernel_rfl) (fun _ _ _ h => h) (Or.inr ⟨by rfl, rfl⟩) hHeld ?_)
            (try simp only [Act.put]); (try simp only [List.setIfInBounds_toArray]); (try simp only [List.set_cons_succ]); (try simp only [List.set_cons_zero])
            refine wpAnyH_ready (rs := [21]) (by kernel_rfl) (by simp) ?_
            refine AllReadyH.cons nth21 (fun K hK => ?_) AllReadyH.nil
            go_simp
            refine hK.out _ _ (hHeld.kept (Bel.one _ _)) (fun hHeld => ?_)
            clear hK K
            (try simp only [Act.put]); (try simp only [List.setIfInBounds_toArray]); (try simp only [List.set_cons_succ]); (try simp only [List.set_cons_zero])
            refine wpAnyH_ready (rs := [22]) (by kernel_rfl) (by simp) ?_
            refine AllReadyH.cons nth22 (fun K hK => ?_) AllReadyH.nil
            go_simp
            (first | (go_at_call 9; refine (awake_c _).mono ?_; rintro e w' ⟨rfl, hb⟩) | (go_at_call 10; with_reducible refine (QB.out _ _ (row3 a b c (hp_new _ _ _))).mono ?_; rintro e w' ⟨rfl, hb⟩) | (go_at_call 10; with_reducible refine (QY.out _ _ (row2 a b (hp_new _ _ _))).mono ?_; rintro e w' ⟨rfl, hb⟩) | (go_at_call 10; with_reducible refine (QZ.out _ _ (row2 b a (hp_new _ _ _))).mono ?_; rintro e w' ⟨rfl, hb⟩) | (go_at_call 20; with_reducible refine (QF.out _ _).mono ?_; rintro e w' ⟨rfl, hb⟩) | (go_at_call 21; with_reducible refine (QA.out _ _ _).mono ?_; rintro e w' ⟨rfl, rfl⟩; have hb := Below.refl w'.heap.size w'))
            refine hK.out _ _ (hHeld.kept hb) (fun hHeld => ?_)
            clear hK K
            (try simp only [Act.put]); (try simp only [List.setIfInBounds_toArray]); (try simp only [List.set_cons_succ]); (try simp only [List.set_cons_zero])
            first | (refine wpAnyH_take (i := 23) (v := ?_) nth23 (by kernel_rfl) (by kernel_rfl) (by kernel_rfl) (fun _ _ _ h => h) (Or.inl ⟨by rfl, ?_⟩) hHeld ?_; rotate_left; focus (intro wS hSw; (have A := (hSw.vb (w.heap.size, a) (by simp)).all; have B := (hSw.vb (w.heap.size + 1, b) (by simp)).all; have C := (hSw.vb (w.heap.size + 2, c) (by simp)).all; have D := (hSw.vb (gx, X) (by simp)).all; have E := (hSw.vb (gn, N) (by simp)).all; have F := (hSw.vb (gg, G) (by simp)).all; have H := (hSw.vb (gl, L) (by simp)).all; have I := (hSw.vb (gu, U) (by simp)).all; obtain ⟨⟨_, _, _⟩, _⟩ := A; obtain ⟨⟨_, _, _⟩, _⟩ := B; obtain ⟨⟨_, _, _⟩, _⟩ := C; obtain ⟨⟨_, _, _⟩, _⟩ := D; obtain ⟨⟨_, _, _⟩, _⟩ := E; obtain ⟨⟨_, _, _⟩, _⟩ := F; obtain ⟨⟨_, _, _⟩, _⟩ := H; obtain ⟨⟨_, _, _⟩, _⟩ := I; have oy := hp_cell hSw.ho HOY.out; have sz := hp_cell hSw.hs HOZ.out; have q1 := E1.out; have q2 := E2.out; have q3 := E3.out; have q4 := HUf.out); go_simp; try with_reducible rfl; done)) | (refine wpAnyH_take (i := 23) (v := undef) nth23 (by kernel_rfl) (by kernel_rfl) (by kernel_rfl) (fun _ _ _ h => h) (Or.inr ⟨by rfl, rfl⟩) hHeld ?_)
            (try simp only [Act.put]); (try simp only [List.setIfInBounds_toArray]); (try simp only [List.set_cons_succ]); (try simp only [List.set_cons_zero])
            first | (refine wpAnyH_take (i := 24) (v := ?_) nth24 (by kernel_rfl) (by kernel_rfl) (by kernel_rfl) (fun _ _ _ h => h) (Or.inl ⟨by rfl, ?_⟩) hHeld ?_; rotate_left; focus (intro wS hSw; (have A := (hSw.vb (w.heap.size, a) (by simp)).all; have B := (hSw.vb (w.heap.size + 1, b) (by simp)).all; have C := (hSw.vb (w.heap.size + 2, c) (by simp)).all; have D := (hSw.vb (gx, X) (by simp)).all; have E := (hSw.vb (gn, N) (by simp)).all; have F := (hSw.vb (gg, G) (by simp)).all; have H := (hSw.vb (gl, L) (by simp)).all; have I := (hSw.vb (gu, U) (by simp)).all; obtain ⟨⟨_, _, _⟩, _⟩ := A; obtain ⟨⟨_, _, _⟩, _⟩ := B; obtain ⟨⟨_, _, _⟩, _⟩ := C; obtain ⟨⟨_, _, _⟩, _⟩ := D; obtain ⟨⟨_, _, _⟩, _⟩ := E; obtain ⟨⟨_, _, _⟩, _⟩ := F; obtain ⟨⟨_, _, _⟩, _⟩ := H; obtain ⟨⟨_, _, _⟩, _⟩ := I; have oy := hp_cell hSw.ho HOY.out; have sz := hp_cell hSw.hs HOZ.out; have q1 := E1.out; have q2 := E2.out; have q3 := E3.out; have q4 := HUf.out); go_simp; try with_reducible rfl; done)) | (refine wpAnyH_take (i := 24) (v := undef) nth24 (by kernel_rfl) (by kernel_rfl) (by kernel_rfl) (fun _ _ _ h => h) (Or.inr ⟨by rfl, rfl⟩) hHeld ?_)
            (try simp only [Act.put]); (try simp only [List.setIfInBounds_toArray]); (try simp only [List.set_cons_succ]); (try simp only [List.set_cons_zero])
            first | (refine wpAnyH_take (i := 25) (v := ?_) nth25 (by kernel_rfl) (by kernel_rfl) (by kernel_rfl) (fun _ _ _ h => h) (Or.inl ⟨by rfl, ?_⟩) hHeld ?_; rotate_left; focus (intro wS hSw; (have A := (hSw.vb (w.heap.size, a) (by simp)).all; have B := (hSw.vb (w.heap.size + 1, b) (by simp)).all; have C := (hSw.vb (w.heap.size + 2, c) (by simp)).all; have D := (hSw.vb (gx, X) (by simp)).all; have E := (hSw.vb (gn, N) (by simp)).all; have F := (hSw.vb (gg, G) (by simp)).all; have H := (hSw.vb (gl, L) (by simp)).all; have I := (hSw.vb (gu, U) (by simp)).all; obtain ⟨⟨_, _, _⟩, _⟩ := A; obtain ⟨⟨_, _, _⟩, _⟩ := B; obtain ⟨⟨_, _, _⟩, _⟩ := C; obtain ⟨⟨_, _, _⟩, _⟩ := D; obtain ⟨⟨_, _, _⟩, _⟩ := E; obtain ⟨⟨_, _, _⟩, _⟩ := F; obtain ⟨⟨_, _, _⟩, _⟩ := H; obtain ⟨⟨_, _, _⟩, _⟩ := I; have oy := hp_cell hSw.ho HOY.out; have sz := hp_cell hSw.hs HOZ.out; have q1 := E1.out; have q2 := E2.out; have q3 := E3.out; have q4 := HUf.out); go_simp; try with_reducible rfl; done)) | (refine wpAnyH_take (i := 25) (v := undef) nth25 (by kernel_rfl) (by kernel_rfl) (by kernel_rfl) (fun _ _ _ h => h) (Or.inr ⟨by rfl, rfl⟩) hHeld ?_)
            (try simp only [Act.put]); (try simp only [List.setIfInBounds_toArray]); (try simp only [List.set_cons_succ]); (try simp only [List.set_cons_zero])
            first | (refine wpAnyH_take (i := 26) (v := ?_) nth26 (by kernel_rfl) (by kernel_rfl) (by kernel_rfl) (fun _ _ _ h => h) (Or.inl ⟨by rfl, ?_⟩) hHeld ?_; rotate_left; focus (intro wS hSw; (have A := (hSw.vb (w.heap.size, a) (by simp)).all; have B := (hSw.vb (w.heap.size + 1, b) (by simp)).all; have C := (hSw.vb (w.heap.size + 2, c) (by simp)).all; have D := (hSw.vb (gx, X) (by simp)).all; have E := (hSw.vb (gn, N) (by simp)).all; have F := (hSw.vb (gg, G) (by simp)).all; have H := (hSw.vb (gl, L) (by simp)).all; have I := (hSw.vb (gu, U) (by simp)).all; obtain ⟨⟨_, _, _⟩, _⟩ := A; obtain ⟨⟨_, _, _⟩, _⟩ := B; obtain ⟨⟨_, _, _⟩, _⟩ := C; obtain ⟨⟨_, _, _⟩, _⟩ := D; obtain ⟨⟨_, _, _⟩, _⟩ := E; obtain ⟨⟨_, _, _⟩, _⟩ := F; obtain ⟨⟨_, _, _⟩, _⟩ := H; obtain ⟨⟨_, _, _⟩, _⟩ := I; have oy := hp_cell hSw.ho HOY.out; have sz := hp_cell hSw.hs HOZ.out; have q1 := E1.out; have q2 := E2.out; have q3 := E3.out; have q4 := HUf.out); go_simp; try with_reducible rfl; done)) | (refine wpAnyH_take (i := 26) (v := undef) nth26 (by kernel_rfl) (by kernel_rfl) (by kernel_rfl) (fun _ _ _ h => h) (Or.inr ⟨by rfl, rfl⟩) hHeld ?_)
            (try simp only [Act.put]); (try simp only [List.setIfInBounds_toArray]); (try simp only [List.set_cons_succ]); (try simp only [List.set_cons_zero])
            first | (refine wpAnyH_take (i := 27) (v := ?_) nth27 (by kernel_rfl) (by kernel_rfl) (by kernel_rfl) (fun _ _ _ h => h) (Or.inl ⟨by rfl, ?_⟩) hHeld ?_; rotate_left; focus (intro wS hSw; (have A := (hSw.vb (w.heap.size, a) (by simp)).all; have B := (hSw.vb (w.heap.size + 1, b) (by simp)).all; have C := (hSw.vb (w.heap.size + 2, c) (by simp)).all; have D := (hSw.vb (gx, X) (by simp)).all; have E := (hSw.vb (gn, N) (by simp)).all; have F := (hSw.vb (gg, G) (by simp)).all; have H := (hSw.vb (gl, L) (by simp)).all; have I := (hSw.vb (gu, U) (by simp)).all; obtain ⟨⟨_, _, _⟩, _⟩ := A; obtain ⟨⟨_, _, _⟩, _⟩ := B; obtain ⟨⟨_, _, _⟩, _⟩ := C; obtain ⟨⟨_, _, _⟩, _⟩ := D; obtain ⟨⟨_, _, _⟩, _⟩ := E; obtain ⟨⟨_, _, _⟩, _⟩ := F; obtain ⟨⟨_, _, _⟩, _⟩ := H; obtain ⟨⟨_, _, _⟩, _⟩ := I; have oy := hp_cell hSw.ho HOY.out; have sz := hp_cell hSw.hs HOZ.out; have q1 := E1.out; have q2 := E2.out; have q3 := E3.out; have q4 := HUf.out); go_simp; try with_reducible rfl; done)) | (refine wpAnyH_take (i := 27) (v := undef) nth27 (by kernel_rfl) (by kernel_rfl) (by kernel_rfl) (fun _ _ _ h => h) (Or.inr ⟨by rfl, rfl⟩) hHeld ?_)
            (try simp only [Act.put]); (try simp only [List.setIfInBounds_toArray]); (try simp only [List.set_cons_succ]); (try simp only [List.set_cons_zero])
            first | (refine wpAnyH_take (i := 28) (v := ?_) nth28 (by kernel_rfl) (by kernel_rfl) (by kernel_rfl) (fun _ _ _ h => h) (Or.inl ⟨by rfl, ?_⟩) hHeld ?_; rotate_left; focus (intro wS hSw; (have A := (hSw.vb (w.heap.size, a) (by simp)).all; have B := (hSw.vb (w.heap.size + 1, b) (by simp)).all; have C := (hSw.vb (w.heap.size + 2, c) (by simp)).all; have D := (hSw.vb (gx, X) (by simp)).all; have E := (hSw.vb (gn, N) (by simp)).all; have F := (hSw.vb (gg, G) (by simp)).all; have H := (hSw.vb (gl, L) (by simp)).all; have I := (hSw.vb (gu, U) (by simp)).all; obtain ⟨⟨_, _, _⟩, _⟩ := A; obtain ⟨⟨_, _, _⟩, _⟩ := B; obtain ⟨⟨_, _, _⟩, _⟩ := C; obtain ⟨⟨_, _, _⟩, _⟩ := D; obtain ⟨⟨_, _, _⟩, _⟩ := E; obtain ⟨⟨_, _, _⟩, _⟩ := F; obtain ⟨⟨_, _, _⟩, _⟩ := H; obtain ⟨⟨_, _, _⟩, _⟩ := I; have oy := hp_cell hSw.ho HOY.out; have sz := hp_cell hSw.hs HOZ.out; have q1 := E1.out; have q2 := E2.out; have q3 := E3.out; have q4 := HUf.out); go_simp; try with_reducible rfl; done)) | (refine wpAnyH_take (i := 28) (v := undef) nth28 (by kernel_rfl) (by kernel_rfl) (by kernel_rfl) (fun _ _ _ h => h) (Or.inr ⟨by rfl, rfl⟩) hHeld ?_)
            (try simp only [Act.put]); (try simp only [List.setIfInBounds_toArray]); (try simp only [List.set_cons_succ]); (try simp only [List.set_cons_zero])
            first | (refine wpAnyH_take (i := 29) (v := ?_) nth29 (by kernel_rfl) (by kernel_rfl) (by kernel_rfl) (fun _ _ _ h => h) (Or.inl ⟨by rfl, ?_⟩) hHeld ?_; rotate_left; focus (intro wS hSw; (have A := (hSw.vb (w.heap.size, a) (by simp)).all; have B := (hSw.vb (w.heap.size + 1, b) (by simp)).all; have C := (hSw.vb (w.heap.size + 2, c) (by simp)).all; have D := (hSw.vb (gx, X) (by simp)).all; have E := (hSw.vb (gn, N) (by simp)).all; have F := (hSw.vb (gg, G) (by simp)).all; have H := (hSw.vb (gl, L) (by simp)).all; have I := (hSw.vb (gu, U) (by simp)).all; obtain ⟨⟨_, _, _⟩, _⟩ := A; obtain ⟨⟨_, _, _⟩, _⟩ := B; obtain ⟨⟨_, _, _⟩, _⟩ := C; obtain ⟨⟨_, _, _⟩, _⟩ := D; obtain ⟨⟨_, _, _⟩, _⟩ := E; obtain ⟨⟨_, _, _⟩, _⟩ := F; obtain ⟨⟨_, _, _⟩, _⟩ := H; obtain ⟨⟨_, _, _⟩, _⟩ := I; have oy := hp_cell hSw.ho HOY.out; have sz := hp_cell hSw.hs HOZ.out; have q1 := E1.out; have q2 := E2.out; have q3 := E3.out; have q4 := HUf.out); go_simp; try with_reducible rfl; done)) | (refine wpAnyH_take (i := 29) (v := undef) nth29 (by kernel_rfl) (by kernel_rfl) (by kernel_rfl) (fun _ _ _ h => h) (Or.inr ⟨by rfl, rfl⟩) hHeld ?_)
            (try simp only [Act.put]); (try simp only [List.setIfInBounds_toArray]); (try simp only [List.set_cons_succ]); (try simp only [List.set_cons_zero])
            refine wpAnyH_ready (rs := [30]) (by kernel_rfl) (by simp) ?_
            refine AllReadyH.cons nth30 (fun K hK => ?_) AllReadyH.nil
            go_simp
            refine hK.out _ _ (hHeld.kept (Bel.one _ _)) (fun hHeld => ?_)
            clear hK K
            (try simp only [Act.put]); (try simp only [List.setIfInBounds_toArray]); (try simp only [List.set_cons_succ]); (try simp only [List.set_cons_zero])
            refine wpAnyH_ready (rs := [31]) (by kernel_rfl) (by simp) ?_
            refine AllReadyH.cons nth31 (fun K hK => ?_) AllReadyH.nil
            go_simp
            (first | (go_at_call 9; refine (awake_c _).mono ?_; rintro e w' ⟨rfl, hb⟩) | (go_at_call 10; with_reducible refine (QB.out _ _ (row3 a b c (hp_new _ _ _))).mono ?_; rintro e w' ⟨rfl, hb⟩) | (go_at_call 10; with_reducible refine (QY.out _ _ (row2 a b (hp_new _ _ _))).mono ?_; rintro e w' ⟨rfl, hb⟩) | (go_at_call 10; with_reducible refine (QZ.out _ _ (row2 b a (hp_new _ _ _))).mono ?_; rintro e w' ⟨rfl, hb⟩) | (go_at_call 20; with_reducible refine (QF.out _ _).mono ?_; rintro e w' ⟨rfl, hb⟩) | (go_at_call 21; with_reducible refine (QA.out _ _ _).mono ?_; rintro e w' ⟨rfl, rfl⟩; have hb := Below.refl w'.heap.size w'))
            refine hK.out _ _ (hHeld.kept hb) (fun hHeld => ?_)
            clear hK K
            (try simp only [Act.put]); (try simp only [List.setIfInBounds_toArray]); (try simp only [List.set_cons_succ]); (try simp only [List.set_cons_zero])
            first | (refine wpAnyH_take (i := 32) (v := ?_) nth32 (by kernel_rfl) (by kernel_rfl) (by kernel_rfl) (fun _ _ _ h => h) (Or.inl ⟨by rfl, ?_⟩) hHeld ?_; rotate_left; focus (intro wS hSw; (have A := (hSw.vb (w.heap.size, a) (by simp)).all; have B := (hSw.vb (w.heap.size + 1, b) (by simp)).all; have C := (hSw.vb (w.heap.size + 2, c) (by simp)).all; have D := (hSw.vb (gx, X) (by simp)).all; have E := (hSw.vb (gn, N) (by simp)).all; have F := (hSw.vb (gg, G) (by simp)).all; have H := (hSw.vb (gl, L) (by simp)).all; have I := (hSw.vb (gu, U) (by simp)).all; obtain ⟨⟨_, _, _⟩, _⟩ := A; obtain ⟨⟨_, _, _⟩, _⟩ := B; obtain ⟨⟨_, _, _⟩, _⟩ := C; obtain ⟨⟨_, _, _⟩, _⟩ := D; obtain ⟨⟨_, _, _⟩, _⟩ := E; obtain ⟨⟨_, _, _⟩, _⟩ := F; obtain ⟨⟨_, _, _⟩, _⟩ := H; obtain ⟨⟨_, _, _⟩, _⟩ := I; have oy := hp_cell hSw.ho HOY.out; have sz := hp_cell hSw.hs HOZ.out; have q1 := E1.out; have q2 := E2.out; have q3 := E3.out; have q4 := HUf.out); go_simp; try with_reducible rfl; done)) | (refine wpAnyH_take (i := 32) (v := undef) nth32 (by kernel_rfl) (by kernel_rfl) (by kernel_rfl) (fun _ _ _ h => h) (Or.inr ⟨by rfl, rfl⟩) hHeld ?_)
            (try simp only [Act.put]); (try simp only [List.setIfInBounds_toArray]); (try simp only [List.set_cons_succ]); (try simp only [List.set_cons_zero])
            first | (refine wpAnyH_take (i := 33) (v := ?_) nth33 (by kernel_rfl) (by kernel_rfl) (by kernel_rfl) (fun _ _ _ h => h) (Or.inl ⟨by rfl, ?_⟩) hHeld ?_; rotate_left; focus (intro wS hSw; (have A := (hSw.vb (w.heap.size, a) (by simp)).all; have B := (hSw.vb (w.heap.size + 1, b) (by simp)).all; have C := (hSw.vb (w.heap.size + 2, c) (by simp)).all; have D := (hSw.vb (gx, X) (by simp)).all; have E := (hSw.vb (gn, N) (by simp)).all; have F := (hSw.vb (gg, G) (by simp)).all; have H := (hSw.vb (gl, L) (by simp)).all; have I := (hSw.vb (gu, U) (by simp)).all; obtain ⟨⟨_, _, _⟩, _⟩ := A; obtain ⟨⟨_, _, _⟩, _⟩ := B; obtain ⟨⟨_, _, _⟩, _⟩ := C; obtain ⟨⟨_, _, _⟩, _⟩ := D; obtain ⟨⟨_, _, _⟩, _⟩ := E; obtain ⟨⟨_, _, _⟩, _⟩ := F; obtain ⟨⟨_, _, _⟩, _⟩ := H; obtain ⟨⟨_, _, _⟩, _⟩ := I; have oy := hp_cell hSw.ho HOY.out; have sz := hp_cell hSw.hs HOZ.out; have q1 := E1.out; have q2 := E2.out; have q3 := E3.out; have q4 := HUf.out); go_simp; try with_reducible rfl; done)) | (refine wpAnyH_take (i := 33) (v := undef) nth33 (by kernel_rfl) (by kernel_rfl) (by kernel_rfl) (fun _ _ _ h => h) (Or.inr ⟨by rfl, rfl⟩) hHeld ?_)
            (try simp only [Act.put]); (try simp only [List.setIfInBounds_toArray]); (try simp only [List.set_cons_succ]); (try simp only [List.set_cons_zero])
            first | (refine wpAnyH_take (i := 34) (v := ?_) nth34 (by kernel_rfl) (by kernel_rfl) (by kernel_rfl) (fun _ _ _ h => h) (Or.inl ⟨by rfl, ?_⟩) hHeld ?_; rotate_left; focus (intro wS hSw; (have A := (hSw.vb (w.heap.size, a) (by simp)).all; have B := (hSw.vb (w.heap.size + 1, b) (by simp)).all; have C := (hSw.vb (w.heap.size + 2, c) (by simp)).all; have D := (hSw.vb (gx, X) (by simp)).all; have E := (hSw.vb (gn, N) (by simp)).all; have F := (hSw.vb (gg, G) (by simp)).all; have H := (hSw.vb (gl, L) (by simp)).all; have I := (hSw.vb (gu, U) (by simp)).all; obtain ⟨⟨_, _, _⟩, _⟩ := A; obtain ⟨⟨_, _, _⟩, _⟩ := B; obtain ⟨⟨_, _, _⟩, _⟩ := C; obtain ⟨⟨_, _, _⟩, _⟩ := D; obtain ⟨⟨_, _, _⟩, _⟩ := E; obtain ⟨⟨_, _, _⟩, _⟩ := F; obtain ⟨⟨_, _, _⟩, _⟩ := H; obtain ⟨⟨_, _, _⟩, _⟩ := I; have oy := hp_cell hSw.ho HOY.out; have sz := hp_cell hSw.hs HOZ.out; have q1 := E1.out; have q2 := E2.out; have q3 := E3.out; have q4 := HUf.out); go_simp; try with_reducible rfl; done)) | (refine wpAnyH_take (i := 34) (v := undef) nth34 (by kernel_rfl) (by kernel_rfl) (by kernel_rfl) (fun _ _ _ h => h) (Or.inr ⟨by rfl, rfl⟩) hHeld ?_)
            (try simp only [Act.put]); (try simp only [List.setIfInBounds_toArray]); (try simp only [List.set_cons_succ]); (try simp only [List.set_cons_zero])
            first | (refine wpAnyH_take (i := 35) (v := ?_) nth35 (by kernel_rfl) (by kernel_rfl) (by kernel_rfl) (fun _ _ _ h => h) (Or.inl ⟨by rfl, ?_⟩) hHeld ?_; rotate_left; focus (intro wS hSw; (have A := (hSw.vb (w.heap.size, a) (by simp)).all; have B := (hSw.vb (w.heap.size + 1, b) (by simp)).all; have C := (hSw.vb (w.heap.size + 2, c) (by simp)).all; have D := (hSw.vb (gx, X) (by simp)).all; have E := (hSw.vb (gn, N) (by simp)).all; have F := (hSw.vb (gg, G) (by simp)).all; have H := (hSw.vb (gl, L) (by simp)).all; have I := (hSw.vb (gu, U) (by simp)).all; obtain ⟨⟨_, _, _⟩, _⟩ := A; obtain ⟨⟨_, _, _⟩, _⟩ := B; obtain ⟨⟨_, _, _⟩, _⟩ := C; obtain ⟨⟨_, _, _⟩, _⟩ := D; obtain ⟨⟨_, _, _⟩, _⟩ := E; obtain ⟨⟨_, _, _⟩, _⟩ := F; obtain ⟨⟨_, _, _⟩, _⟩ := H; obtain ⟨⟨_, _, _⟩, _⟩ := I; have oy := hp_cell hSw.ho HOY.out; have sz := hp_cell hSw.hs HOZ.out; have q1 := E1.out; have q2 := E2.out; have q3 := E3.out; have q4 := HUf.out); go_simp; try with_reducible rfl; done)) | (refine wpAnyH_take (i := 35) (v := undef) nth35 (by kernel_rfl) (by kernel_rfl) (by kernel_rfl) (fun _ _ _ h => h) (Or.inr ⟨by rfl, rfl⟩) hHeld ?_)
            (try simp only [Act.put]); (try simp only [List.setIfInBounds_toArray]); (try simp only [List.set_cons_succ]); (try simp only [List.set_cons_zero])
            first | (refine wpAnyH_take (i := 37) (v := ?_) nth37 (by kernel_rfl) (by kernel_rfl) (by kernel_rfl) (fun _ _ _ h => h) (Or.inl ⟨by rfl, ?_⟩) hHeld ?_; rotate_left; focus (intro wS hSw; (have A := (hSw.vb (w.heap.size, a) (by simp)).all; have B := (hSw.vb (w.heap.size + 1, b) (by simp)).all; have C := (hSw.vb (w.heap.size + 2, c) (by simp)).all; have D := (hSw.vb (gx, X) (by simp)).all; have E := (hSw.vb (gn, N) (by simp)).all; have F := (hSw.vb (gg, G) (by simp)).all; have H := (hSw.vb (gl, L) (by simp)).all; have I := (hSw.vb (gu, U) (by simp)).all; obtain ⟨⟨_, _, _⟩, _⟩ := A; obtain ⟨⟨_, _, _⟩, _⟩ := B; obtain ⟨⟨_, _, _⟩, _⟩ := C; obtain ⟨⟨_, _, _⟩, _⟩ := D; obtain ⟨⟨_, _, _⟩, _⟩ := E; obtain ⟨⟨_, _, _⟩, _⟩ := F; obtain ⟨⟨_, _, _⟩, _⟩ := H; obtain ⟨⟨_, _, _⟩, _⟩ := I; have oy := hp_cell hSw.ho HOY.out; have sz := hp_cell hSw.hs HOZ.out; have q1 := E1.out; have q2 := E2.out; have q3 := E3.out; have q4 := HUf.out); go_simp; try with_reducible rfl; done)) | (refine wpAnyH_take (i := 37) (v := undef) nth37 (by kernel_rfl) (by kernel_rfl) (by kernel_rfl) (fun _ _ _ h => h) (Or.inr ⟨by rfl, rfl⟩) hHeld ?_)
            (try simp only [Act.put]); (try simp only [List.setIfInBounds_toArray]); (try simp only [List.set_cons_succ]); (try simp only [List.set_cons_zero])
            first | (refine wpAnyH_take (i := 39) (v := ?_) nth39 (by kernel_rfl) (by kernel_rfl) (by kernel_rfl) (fun _ _ _ h => h) (Or.inl ⟨by rfl, ?_⟩) hHeld ?_; rotate_left; focus (intro wS hSw; (have A := (hSw.vb (w.heap.size, a) (by simp)).all; have B := (hSw.vb (w.heap.size + 1, b) (by simp)).all; have C := (hSw.vb (w.heap.size + 2, c) (by simp)).all; have D := (hSw.vb (gx, X) (by simp)).all; have E := (hSw.vb (gn, N) (by simp)).all; have F := (hSw.vb (gg, G) (by simp)).all; have H := (hSw.vb (gl, L) (by simp)).all; have I := (hSw.vb (gu, U) (by simp)).all; obtain ⟨⟨_, _, _⟩, _⟩ := A; obtain ⟨⟨_, _, _⟩, _⟩ := B; obtain ⟨⟨_, _, _⟩, _⟩ := C; obtain ⟨⟨_, _, _⟩, _⟩ := D; obtain ⟨⟨_, _, _⟩, _⟩ := E; obtain ⟨⟨_, _, _⟩, _⟩ := F; obtain ⟨⟨_, _, _⟩, _⟩ := H; obtain ⟨⟨_, _, _⟩, _⟩ := I; have oy := hp_cell hSw.ho HOY.out; have sz := hp_cell hSw.hs HOZ.out; have q1 := E1.out; have q2 := E2.out; have q3 := E3.out; have q4 := HUf.out); go_simp; try with_reducible rfl; done)) | (refine wpAnyH_take (i := 39) (v := undef) nth39 (by kernel_rfl) (by kernel_rfl) (by kernel_rfl) (fun _ _ _ h => h) (Or.inr ⟨by rfl, rfl⟩) hHeld ?_)
            (try simp only [Act.put]); (try simp only [List.setIfInBounds_toArray]); (try simp only [List.set_cons_succ]); (try simp only [List.set_cons_zero])
            refine wpAnyH_ready (rs := [36]) (by kernel_rfl) (by simp) ?_
            refine AllReadyH.cons nth36 (fun K hK => ?_) AllReadyH.nil
            go_simp
            (first | (go_at_call 9; refine (awake_c _).mono ?_; rintro e w' ⟨rfl, hb⟩) | (go_at_call 10; with_reducible refine (QB.out _ _ (row3 a b c (hp_new _ _ _))).mono ?_; rintro e w' ⟨rfl, hb⟩) | (go_at_call 10; with_reducible refine (QY.out _ _ (row2 a b (hp_new _ _ _))).mono ?_; rintro e w' ⟨rfl, hb⟩) | (go_at_call 10; with_reducible refine (QZ.out _ _ (row2 b a (hp_new _ _ _))).mono ?_; rintro e w' ⟨rfl, hb⟩) | (go_at_call 20; with_reducible refine (QF.out _ _).mono ?_; rintro e w' ⟨rfl, hb⟩) | (go_at_call 21; with_reducible refine (QA.out _ _ _).mono ?_; rintro e w' ⟨rfl, rfl⟩; have hb := Below.refl w'.heap.size w'))
            refine hK.out _ _ (hHeld.kept hb) (fun hHeld => ?_)
            clear hK K
            (try simp only [Act.put]); (try simp only [List.setIfInBounds_toArray]); (try simp only [List.set_cons_succ]); (try simp only [List.set_cons_zero])
            refine wpAnyH_ready (rs := [38]) (by kernel_rfl) (by simp) ?_
            refine AllReadyH.cons nth38 (fun K hK => ?_) AllReadyH.nil
            go_simp
            (first | (go_at_call 9; refine (awake_c _).mono ?_; rintro e w' ⟨rfl, hb⟩) | (go_at_call 10; with_reducible refine (QB.out _ _ (row3 a b c (hp_new _ _ _))).mono ?_; rintro e w' ⟨rfl, hb⟩) | (go_at_call 10; with_reducible refine (QY.out _ _ (row2 a b (hp_new _ _ _))).mono ?_; rintro e w' ⟨rfl, hb⟩) | (go_at_call 10; with_reducible refine (QZ.out _ _ (row2 b a (hp_new _ _ _))).mono ?_; rintro e w' ⟨rfl, hb⟩) | (go_at_call 20; with_reducible refine (QF.out _ _).mono ?_; rintro e w' ⟨rfl, hb⟩) | (go_at_call 21; with_reducible refine (QA.out _ _ _).mono ?_; rintro e w' ⟨rfl, rfl⟩; have hb := Below.refl w'.heap.size w'))
            refine hK.out _ _ (hHeld.kept hb) (fun hHeld => ?_)
            clear hK K
            (try simp only [Act.put]); (try simp only [List.setIfInBounds_toArray]); (try simp only [List.set_cons_succ]); (try simp only [List.set_cons_zero])
            refine wpAnyH_ready (rs := [40]) (by kernel_rfl) (by simp) ?_
            refine AllReadyH.cons nth40 (fun K hK => ?_) AllReadyH.nil
            go_simp
            (first | (go_at_call 9; refine (awake_c _).mono ?_; rintro e w' ⟨rfl, hb⟩) | (go_at_call 10; with_reducible refine (QB.out _ _ (row3 a b c (hp_new _ _ _))).mono ?_; rintro e w' ⟨rfl, hb⟩) | (go_at_call 10; with_reducible refine (QY.out _ _ (row2 a b (hp_new _ _ _))).mono ?_; rintro e w' ⟨rfl, hb⟩) | (go_at_call 10; with_reducible refine (QZ.out _ _ (row2 b a (hp_new _ _ _))).mono ?_; rintro e w' ⟨rfl, hb⟩) | (go_at_call 20; with_reducible refine (QF.out _ _).mono ?_; rintro e w' ⟨rfl, hb⟩) | (go_at_call 21; with_reducible refine (QA.out _ _ _).mono ?_; rintro e w' ⟨rfl, rfl⟩; have hb := Below.refl w'.heap.size w'))
            refine hK.out _ _ (hHeld.kept hb) (fun hHeld => ?_)
            clear hK K
            (try simp only [Act.put]); (try simp only [List.setIfInBounds_toArray]); (try simp only [List.set_cons_succ]); (try simp only [List.set_cons_zero])
            refine wpAnyH_ready (rs := [41]) (by kernel_rfl) (by simp) ?_
            refine AllReadyH.cons nth41 (fun K hK => ?_) AllReadyH.nil
            go_simp
            (first | (go_at_call 9; refine (awake_c _).mono ?_; rintro e w' ⟨rfl, hb⟩) | (go_at_call 10; with_reducible refine (QB.out _ _ (row3 a b c (hp_new _ _ _))).mono ?_; rintro e w' ⟨rfl, hb⟩) | (go_at_call 10; with_reducible refine (QY.out _ _ (row2 a b (hp_new _ _ _))).mono ?_; rintro e w' ⟨rfl, hb⟩) | (go_at_call 10; with_reducible refine (QZ.out _ _ (row2 b a (hp_new _ _ _))).mono ?_; rintro e w' ⟨rfl, hb⟩) | (go_at_call 20; with_reducible refine (QF.out _ _).mono ?_; rintro e w' ⟨rfl, hb⟩) | (go_at_call 21; with_reducible refine (QA.out _ _ _).mono ?_; rintro e w' ⟨rfl, rfl⟩; have hb := Below.refl w'.heap.size w'))
            refine hK.out _ _ (hHeld.kept hb) (fun hHeld => ?_)
            clear hK K
            (try simp only [Act.put]); (try simp only [List.setIfInBounds_toArray]); (try simp only [List.set_cons_succ]); (try simp only [List.set_cons_zero])
            first | (refine wpAnyH_take (i := 42) (v := ?_) nth42 (by kernel_rfl) (by kernel_rfl) (by kernel_rfl) (fun _ _ _ h => h) (Or.inl ⟨by rfl, ?_⟩) hHeld ?_; rotate_left; focus (intro wS hSw; (have A := (hSw.vb (w.heap.size, a) (by simp)).all; have B := (hSw.vb (w.heap.size + 1, b) (by simp)).all; have C := (hSw.vb (w.heap.size + 2, c) (by simp)).all; have D := (hSw.vb (gx, X) (by simp)).all; have E := (hSw.vb (gn, N) (by simp)).all; have F := (hSw.vb (gg, G) (by simp)).all; have H := (hSw.vb (gl, L) (by simp)).all; have I := (hSw.vb (gu, U) (by simp)).all; obtain ⟨⟨_, _, _⟩, _⟩ := A; obtain ⟨⟨_, _, _⟩, _⟩ := B; obtain ⟨⟨_, _, _⟩, _⟩ := C; obtain ⟨⟨_, _, _⟩, _⟩ := D; obtain ⟨⟨_, _, _⟩, _⟩ := E; obtain ⟨⟨_, _, _⟩, _⟩ := F; obtain ⟨⟨_, _, _⟩, _⟩ := H; obtain ⟨⟨_, _, _⟩, _⟩ := I; have oy := hp_cell hSw.ho HOY.out; have sz := hp_cell hSw.hs HOZ.out; have q1 := E1.out; have q2 := E2.out; have q3 := E3.out; have q4 := HUf.out); go_simp; try with_reducible rfl; done)) | (refine wpAnyH_take (i := 42) (v := undef) nth42 (by kernel_rfl) (by kernel_rfl) (by kernel_rfl) (fun _ _ _ h => h) (Or.inr ⟨by rfl, rfl⟩) hHeld ?_)
            (try simp only [Act.put]); (try simp only [List.setIfInBounds_toArray]); (try simp only [List.set_cons_succ]); (try simp only [List.set_cons_zero])
            first | (refine wpAnyH_take (i := 43) (v := ?_) nth43 (by kernel_rfl) (by kernel_rfl) (by kernel_rfl) (fun _ _ _ h => h) (Or.inl ⟨by rfl, ?_⟩) hHeld ?_; rotate_left; focus (intro wS hSw; (have A := (hSw.vb (w.heap.size, a) (by simp)).all; have B := (hSw.vb (w.heap.size + 1, b) (by simp)).all; have C := (hSw.vb (w.heap.size + 2, c) (by simp)).all; have D := (hSw.vb (gx, X) (by simp)).all; have E := (hSw.vb (gn, N) (by simp)).all; have F := (hSw.vb (gg, G) (by simp)).all; have H := (hSw.vb (gl, L) (by simp)).all; have I := (hSw.vb (gu, U) (by simp)).all; obtain ⟨⟨_, _, _⟩, _⟩ := A; obtain ⟨⟨_, _, _⟩, _⟩ := B; obtain ⟨⟨_, _, _⟩, _⟩ := C; obtain ⟨⟨_, _, _⟩, _⟩ := D; obtain ⟨⟨_, _, _⟩, _⟩ := E; obtain ⟨⟨_, _, _⟩, _⟩ := F; obtain ⟨⟨_, _, _⟩, _⟩ := H; obtain ⟨⟨_, _, _⟩, _⟩ := I; have oy := hp_cell hSw.ho HOY.out; have sz := hp_cell hSw.hs HOZ.out; have q1 := E1.out; have q2 := E2.out; have q3 := E3.out; have q4 := HUf.out); go_simp; try with_reducible rfl; done)) | (refine wpAnyH_take (i := 43) (v := undef) nth43 (by kernel_rfl) (by kernel_rfl) (by kernel_rfl) (fun _ _ _ h => h) (Or.inr ⟨by rfl, rfl⟩) hHeld ?_)
            (try simp only [Act.put]); (try simp only [List.setIfInBounds_toArray]); (try simp only [List.set_cons_succ]); (try simp only [List.set_cons_zero])
            first | (refine wpAnyH_take (i := 44) (v := ?_) nth44 (by kernel_rfl) (by kernel_rfl) (by kernel_rfl) (fun _ _ _ h => h) (Or.inl ⟨by rfl, ?_⟩) hHeld ?_; rotate_left; focus (intro wS hSw; (have A := (hSw.vb (w.heap.size, a) (by simp)).all; have B := (hSw.vb (w.heap.size + 1, b) (by simp)).all; have C := (hSw.vb (w.heap.size + 2, c) (by simp)).all; have D := (hSw.vb (gx, X) (by simp)).all; have E := (hSw.vb (gn, N) (by simp)).all; have F := (hSw.vb (gg, G) (by simp)).all; have H := (hSw.vb (gl, L) (by simp)).all; have I := (hSw.vb (gu, U) (by simp)).all; obtain ⟨⟨_, _, _⟩, _⟩ := A; obtain ⟨⟨_, _, _⟩, _⟩ := B; obtain ⟨⟨_, _, _⟩, _⟩ := C; obtain ⟨⟨_, _, _⟩, _⟩ := D; obtain ⟨⟨_, _, _⟩, _⟩ := E; obtain ⟨⟨_, _, _⟩, _⟩ := F; obtain ⟨⟨_, _, _⟩, _⟩ := H; obtain ⟨⟨_, _, _⟩, _⟩ := I; have oy := hp_cell hSw.ho HOY.out; have sz := hp_cell hSw.hs HOZ.out; have q1 := E1.out; have q2 := E2.out; have q3 := E3.out; have q4 := HUf.out); go_simp; try with_reducible rfl; done)) | (refine wpAnyH_take (i := 44) (v := undef) nth44 (by kernel_rfl) (by kernel_rfl) (by kernel_rfl) (fun _ _ _ h => h) (Or.inr ⟨by rfl, rfl⟩) hHeld ?_)
            (try simp only [Act.put]); (try simp only [List.setIfInBounds_toArray]); (try simp only [List.set_cons_succ]); (try simp only [List.set_cons_zero])
            refine wpAnyH_done (by kernel_rfl) ?_ _
            go_wp2_with fail
            go_ret
            exact ⟨rfl, hHeld.hb⟩
end Go.Proofs.Ytlkeghfdpbfhbaa
