/- The contract of the statements' examples. -/
import Derived.Test.YtlkeghfdpbfhbaaScI
namespace Go.Proofs.Ytlkeghfdpbfhbaa
set_option linter.unusedVariables false
open Go.ChangeShapes Go.WideShapes Go.ChangeAt Go.RowKit

/-- What stays where it is while the examples run. -/
structure AwS (w : World) (g : Nat) (w' : World) : Prop where
  h1 : Hp w' g #[.int .i64 2, .int .i64 1, .string ByteArray.empty] 26
  h2 : Hp w' (g + 1) #[.int .i64 2, .int .i64 2, .string ByteArray.empty] 26
  h3 : Hp w' (g + 2) #[.int .i64 0, .int .i64 0, .string eS] 26
  h5 : Hp w' (g + 4) kidsCs 32
  h6 : Hp w' (g + 5) #[.int .i64 15, .int .i64 0, .int .i64 0, .string eS, .int .i64 0, .int .i64 0, .string eS, .slice (some ⟨g + 4, 0, none⟩) 2 2, .slice none 0 0, .int .i64 0] 32
  hb : Below w.heap.size w w'
theorem AwS.kept {w : World} {g : Nat} {w' w'' : World} (h : AwS w g w') (hb : Below w'.heap.size w' w'') : AwS w g w'' := ⟨h.h1.kept hb, h.h2.kept hb, h.h3.kept hb, h.h5.kept hb, h.h6.kept hb, Bel.then h.hb hb⟩
theorem AwS.new (w w0 : World) (h0 : Below w.heap.size w w0) : AwS w w0.heap.size ((((((w0.alloc (.cells #[.int .i64 2, .int .i64 1, .string ByteArray.empty] 26)).alloc (.cells #[.int .i64 2, .int .i64 2, .string ByteArray.empty] 26)).alloc (.cells #[.int .i64 0, .int .i64 0, .string eS] 26)).alloc (.cells #[.int .i64 2, .int .i64 0, .int .i64 0, .string eS, .int .i64 0, .int .i64 1, .string eS, .slice none 0 0, .slice none 0 0, .int .i64 0] 32)).alloc (.cells kidsCs 32)).alloc (.cells #[.int .i64 15, .int .i64 0, .int .i64 0, .string eS, .int .i64 0, .int .i64 0, .string eS, .slice (some ⟨w0.heap.size + 4, 0, none⟩) 2 2, .slice none 0 0, .int .i64 0] 32)) := by
  obtain ⟨o1, e1⟩ : ∃ o : Obj, o = .cells #[.int .i64 2, .int .i64 1, .string ByteArray.empty] 26 := ⟨_, rfl⟩
  obtain ⟨o2, e2⟩ : ∃ o : Obj, o = .cells #[.int .i64 2, .int .i64 2, .string ByteArray.empty] 26 := ⟨_, rfl⟩
  obtain ⟨o3, e3⟩ : ∃ o : Obj, o = .cells #[.int .i64 0, .int .i64 0, .string eS] 26 := ⟨_, rfl⟩
  obtain ⟨o4, e4⟩ : ∃ o : Obj, o = .cells #[.int .i64 2, .int .i64 0, .int .i64 0, .string eS, .int .i64 0, .int .i64 1, .string eS, .slice none 0 0, .slice none 0 0, .int .i64 0] 32 := ⟨_, rfl⟩
  obtain ⟨o5, e5⟩ : ∃ o : Obj, o = .cells kidsCs 32 := ⟨_, rfl⟩
  obtain ⟨o6, e6⟩ : ∃ o : Obj, o = .cells #[.int .i64 15, .int .i64 0, .int .i64 0, .string eS, .int .i64 0, .int .i64 0, .string eS, .slice (some ⟨w0.heap.size + 4, 0, none⟩) 2 2, .slice none 0 0, .int .i64 0] 32 := ⟨_, rfl⟩
  have s1 : (w0.alloc o1).heap.size = w0.heap.size + 1 := World.size_alloc _ _
  have s2 : ((w0.alloc o1).alloc o2).heap.size = w0.heap.size + 2 := by rw [World.size_alloc, s1]
  have s3 : (((w0.alloc o1).alloc o2).alloc o3).heap.size = w0.heap.size + 3 := by rw [World.size_alloc, s2]
  have s4 : ((((w0.alloc o1).alloc o2).alloc o3).alloc o4).heap.size = w0.heap.size + 4 := by rw [World.size_alloc, s3]
  have s5 : (((((w0.alloc o1).alloc o2).alloc o3).alloc o4).alloc o5).heap.size = w0.heap.size + 5 := by rw [World.size_alloc, s4]
  rw [← e1, ← e2, ← e3, ← e4, ← e5, ← e6]
  have b1 := Bel.one w0 o1
  have b2 := Bel.one (w0.alloc o1) o2
  have b3 := Bel.one ((w0.alloc o1).alloc o2) o3
  have b4 := Bel.one (((w0.alloc o1).alloc o2).alloc o3) o4
  have b5 := Bel.one ((((w0.alloc o1).alloc o2).alloc o3).alloc o4) o5
  have b6 := Bel.one (((((w0.alloc o1).alloc o2).alloc o3).alloc o4).alloc o5) o6
  have k1 : Hp (w0.alloc o1) w0.heap.size #[.int .i64 2, .int .i64 1, .string ByteArray.empty] 26 := by rw [e1]; exact hp_new _ _ _
  have k2 : Hp ((w0.alloc o1).alloc o2) (w0.heap.size + 1) #[.int .i64 2, .int .i64 2, .string ByteArray.empty] 26 := by rw [← s1, e2]; exact hp_new _ _ _
  have k3 : Hp (((w0.alloc o1).alloc o2).alloc o3) (w0.heap.size + 2) #[.int .i64 0, .int .i64 0, .string eS] 26 := by rw [← s2, e3]; exact hp_new _ _ _
  have k5 : Hp (((((w0.alloc o1).alloc o2).alloc o3).alloc o4).alloc o5) (w0.heap.size + 4) kidsCs 32 := by rw [← s4, e5]; exact hp_new _ _ _
  have k6 : Hp ((((((w0.alloc o1).alloc o2).alloc o3).alloc o4).alloc o5).alloc o6) (w0.heap.size + 5) #[.int .i64 15, .int .i64 0, .int .i64 0, .string eS, .int .i64 0, .int .i64 0, .string eS, .slice (some ⟨w0.heap.size + 4, 0, none⟩) 2 2, .slice none 0 0, .int .i64 0] 32 := by rw [← s5, e6]; exact hp_new _ _ _
  exact ⟨((((k1.kept b2).kept b3).kept b4).kept b5).kept b6, (((k2.kept b3).kept b4).kept b5).kept b6, ((k3.kept b4).kept b5).kept b6, k5.kept b6, k6, Bel.then (Bel.then (Bel.then (Bel.then (Bel.then (Bel.then h0 b1) b2) b3) b4) b5) b6⟩
/-- A value compared with itself. -/
theorem valEq_same (k n : Int) (s : ByteArray) (w : World) : (Op.equalIn 10000 26 (.agg #[.int .i64 k, .int .i64 n, .string s]) (.agg #[.int .i64 k, .int .i64 n, .string s])).run Try.prog w = .ok true w := by
  have f : (s.toList == s.toList) = true := beq_self_eq_true _
  go_simp
theorem aw1 (w1 : World) : Calls Try.prog 10 #[.int .i64 8, .string eS, .slice (some ⟨w1.heap.size, 0, none⟩) 2 2] (w1.alloc (.cells #[.int .i64 2, .int .i64 7, .string ByteArray.empty, .int .i64 2, .int .i64 0, .string ByteArray.empty] 26)) fun e w' => e = .returned (.agg #[.int .i64 0, .int .i64 0, .string eS]) ∧ Below (w1.alloc (.cells #[.int .i64 2, .int .i64 7, .string ByteArray.empty, .int .i64 2, .int .i64 0, .string ByteArray.empty] 26)).heap.size (w1.alloc (.cells #[.int .i64 2, .int .i64 7, .string ByteArray.empty, .int .i64 2, .int .i64 0, .string ByteArray.empty] 26)) w' := by
  have hr := row_blk (l := [⟨2, 7, ByteArray.empty⟩, ⟨2, 0, ByteArray.empty⟩]) (n := 2) (hp_new w1 #[.int .i64 2, .int .i64 7, .string ByteArray.empty, .int .i64 2, .int .i64 0, .string ByteArray.empty] 26) rfl rfl (by decide)
  have h := apply2_c 8 (.inl ⟨by decide, by decide⟩) eS _ _ _ 2 _ hr (fun h => by omega)
  exact h
theorem aw2 (w1 : World) : Calls Try.prog 10 #[.int .i64 21, .string eS, .slice (some ⟨w1.heap.size, 0, none⟩) 3 3] (w1.alloc (.cells #[.int .i64 2, .int .i64 1, .string ByteArray.empty, .int .i64 2, .int .i64 1, .string ByteArray.empty, .int .i64 0, .int .i64 0, .string eS] 26)) fun e w' => e = .returned (.agg #[.int .i64 1, .int .i64 1, .string ByteArray.empty]) ∧ Below (w1.alloc (.cells #[.int .i64 2, .int .i64 1, .string ByteArray.empty, .int .i64 2, .int .i64 1, .string ByteArray.empty, .int .i64 0, .int .i64 0, .string eS] 26)).heap.size (w1.alloc (.cells #[.int .i64 2, .int .i64 1, .string ByteArray.empty, .int .i64 2, .int .i64 1, .string ByteArray.empty, .int .i64 0, .int .i64 0, .string eS] 26)) w' := by
  have hr := row_blk (l := [⟨2, 1, ByteArray.empty⟩, ⟨2, 1, ByteArray.empty⟩, ⟨0, 0, eS⟩]) (n := 3) (hp_new w1 #[.int .i64 2, .int .i64 1, .string ByteArray.empty, .int .i64 2, .int .i64 1, .string ByteArray.empty, .int .i64 0, .int .i64 0, .string eS] 26) rfl rfl (by decide)
  have h := applyIn_c eS _ _ _ 3 3 _ hr (by simp)
  exact h
theorem aw3 (w1 : World) : Calls Try.prog 10 #[.int .i64 23, .string eS, .slice (some ⟨w1.heap.size, 0, none⟩) 3 3] (w1.alloc (.cells #[.int .i64 0, .int .i64 0, .string eS, .int .i64 2, .int .i64 1, .string ByteArray.empty, .int .i64 2, .int .i64 2, .string ByteArray.empty] 26)) fun e w' => e = .returned (.agg #[.int .i64 2, .int .i64 2, .string ByteArray.empty]) ∧ Below (w1.alloc (.cells #[.int .i64 0, .int .i64 0, .string eS, .int .i64 2, .int .i64 1, .string ByteArray.empty, .int .i64 2, .int .i64 2, .string ByteArray.empty] 26)).heap.size (w1.alloc (.cells #[.int .i64 0, .int .i64 0, .string eS, .int .i64 2, .int .i64 1, .string ByteArray.empty, .int .i64 2, .int .i64 2, .string ByteArray.empty] 26)) w' := by
  have hr := row_blk (l := [⟨0, 0, eS⟩, ⟨2, 1, ByteArray.empty⟩, ⟨2, 2, ByteArray.empty⟩]) (n := 3) (hp_new w1 #[.int .i64 0, .int .i64 0, .string eS, .int .i64 2, .int .i64 1, .string ByteArray.empty, .int .i64 2, .int .i64 2, .string ByteArray.empty] 26) rfl rfl (by decide)
  have h := applyCase_c eS _ _ 3 3 _ hr (by decide)
  exact h
theorem aw4 (w1 : World) : Calls Try.prog 10 #[.int .i64 10, .string eS, .slice (some ⟨w1.heap.size, 0, none⟩) 2 2] (w1.alloc (.cells #[.int .i64 3, .int .i64 0, .string { data := #[97] }, .int .i64 3, .int .i64 0, .string { data := #[98] }] 26)) fun e w' => e = .returned (.agg #[.int .i64 3, .int .i64 0, .string { data := #[97, 98] }]) ∧ Below (w1.alloc (.cells #[.int .i64 3, .int .i64 0, .string { data := #[97] }, .int .i64 3, .int .i64 0, .string { data := #[98] }] 26)).heap.size (w1.alloc (.cells #[.int .i64 3, .int .i64 0, .string { data := #[97] }, .int .i64 3, .int .i64 0, .string { data := #[98] }] 26)) w' := by
  have hr := row_blk (l := [⟨3, 0, { data := #[97] }⟩, ⟨3, 0, { data := #[98] }⟩]) (n := 2) (hp_new w1 #[.int .i64 3, .int .i64 0, .string { data := #[97] }, .int .i64 3, .int .i64 0, .string { data := #[98] }] 26) rfl rfl (by decide)
  have h := apply2_c 10 (.inl ⟨by decide, by decide⟩) eS _ _ _ 2 _ hr (fun _ => ⟨by decide, by decide⟩)
  exact h
theorem aw5 (w1 : World) : Calls Try.prog 10 #[.int .i64 24, .string upName, .slice (some ⟨w1.heap.size, 0, none⟩) 1 1] (w1.alloc (.cells #[.int .i64 3, .int .i64 0, .string { data := #[97, 49] }] 26)) fun e w' => e = .returned (.agg #[.int .i64 3, .int .i64 0, .string { data := #[65, 49] }]) ∧ Below (w1.alloc (.cells #[.int .i64 3, .int .i64 0, .string { data := #[97, 49] }] 26)).heap.size (w1.alloc (.cells #[.int .i64 3, .int .i64 0, .string { data := #[97, 49] }] 26)) w' := by
  have hr := row_blk (l := [⟨3, 0, { data := #[97, 49] }⟩]) (n := 1) (hp_new w1 #[.int .i64 3, .int .i64 0, .string { data := #[97, 49] }] 26) rfl rfl (by decide)
  have h := applyUp_c 0 _ _ 1 _ (by decide) hr
  exact h
end Go.Proofs.Ytlkeghfdpbfhbaa
