/- The contract of the reference: a pattern's signs. -/
import Derived.Test.YtlkeghfdpbfhbaaLkF
namespace Go.Proofs.Ytlkeghfdpbfhbaa
set_option linter.unusedVariables false
open Go.ChangeShapes Go.WideShapes Go.ChangeAt Go.RowKit

theorem int_info : (Try.prog.info? 3).map (fun i => (i.zero, i.size, i.bytes)) = some (some (.int .i64 0), 1, 8) := by kernel_rfl
/-- A sign's number. -/
def sgI : Sg → Int
  | .byte b => b.toNat
  | .one => 256
  | .all => 257
def siC (g : Sg) : List Value := [.int .i64 (sgI g)]
theorem siC_len (g : Sg) : (siC g).length = 1 := rfl
def GivesI (w : World) (l : List Sg) (e : Ending) (w' : World) : Prop := ∃ A c, e = .returned (.slice A l.length c) ∧ SlAt siC 1 w' w'.heap.size A l.length c l ∧ Below w.heap.size w w'
def RElsAt (w0 : World) (s : ByteArray) (k : Nat) (v : Value) (w : World) : Prop := ∃ l : List Sg, l ++ signsL (s.data.toList.drop k) = signsL s.data.toList ∧ l.length ≤ k ∧ w.ownsRow w0.heap.size 3 1 v l.length (l.map siC).flatten ∧ Below w0.heap.size w0 w
set_option maxRecDepth 100000 in
set_option maxHeartbeats 1000000 in
theorem rsigns_c (s : ByteArray) (w : World) (hm : s.size ≤ 1048576) : Calls Try.prog 87 #[.string s] w (GivesI w (signsL s.data.toList)) := by
  obtain ⟨i0, hi0, hz0, hz1, hz2⟩ := info_parts int_info
  have HI := hide (show RElsAt w s 0 (.slice none 0 0) w from ⟨[], rfl, Nat.le_refl _, World.ownsRow_nil _ _ _ _, Below.refl _ _⟩)
  go_enter Try.func87, Try.ntmps87
  go_wp2_with fail
  go_loopw [3, 4] (fun v i wr => ∃ k : Nat, k ≤ s.size ∧ i = .int .i64 k ∧ Hid (RElsAt w s k v wr)) (fun _ i _ => s.size - (intOf i).toNat)
  case atStart => exact ⟨0, Nat.zero_le _, rfl, HI⟩
  case round =>
    clear HI
    obtain ⟨k, hk, rfl, HI⟩ := hrel
    by_cases hlt : k < s.size
    · obtain ⟨l, hl, hlk, hown, hb⟩ := HI.out
      rcases sign_step hlt with ⟨h1, h2⟩ | ⟨h1, h2⟩ | ⟨h3, h1, h4, h2⟩ | ⟨h1, h3, h4, h2⟩
      · have c1 : ((s[k].toNat : Int) == 37) = true := by rw [h1]; rfl
        have c3 : ((s[k].toNat : Int) == 92) = false := by rw [h1]; rfl
        have hw : IntKind.i64.wrap ((k : Int) + 1) = (k : Int) + 1 := IntWalk.i64_in _ (by omega)
        have HO := hide hown
        have HB := hide hb
        have HL := hide hl
        have HS2 := hide h2
        clear hown hb hl h2 HI
        go_wp2_with (at_builtin; refine wpList_app rfl (.tmp 42) (.tmp 43) 43 rfl w.heap.size 3 i0 _ 1 8 Try.underlying43 hi0 hz0 hz1 hz2 rfl (by omega) _ l.length _ rfl (HO.out.alloc _) _ _ 1 1 (siC (.all)) rfl rfl (cells_lit wr #[.int .i64 (257)] 3) (by simp [siC, Value.oneCell']) (by simp only [maxLen]; omega) (by omega) (by have := HB.out.size; first | (simp; done) | (simp; omega)) (by simp) ?_; intro v4 w4 hown4 hg4 _)
        have HI4 := hide (show RElsAt w s (k + 1) v4 w4 from ⟨l ++ [.all], by rw [List.append_assoc, ← HL.out]; exact congrArg (l ++ ·) HS2.out.symm, by rw [List.length_append]; simp; omega, by have := hown4; simpa using this, (HB.out.alloc HB.out.size _).grown hg4 (by have := HB.out.size; rw [World.size_alloc]; omega) (fun q hq => (HO.out.lt q hq).1)⟩)
        clear hown4 hg4 HO HB HL HS2
        go_wp2_with fail
        go_roundw
        case rel => exact ⟨k + 1, by omega, by go_num, HI4⟩
        case measure => simp [intOf]; omega
      · have c1 : ((s[k].toNat : Int) == 37) = false := by rw [h1]; rfl
        have c2 : ((s[k].toNat : Int) == 95) = true := by rw [h1]; rfl
        have c3 : ((s[k].toNat : Int) == 92) = false := by rw [h1]; rfl
        have hw : IntKind.i64.wrap ((k : Int) + 1) = (k : Int) + 1 := IntWalk.i64_in _ (by omega)
        have HO := hide hown
        have HB := hide hb
        have HL := hide hl
        have HS2 := hide h2
        clear hown hb hl h2 HI
        go_wp2_with (at_builtin; refine wpList_app rfl (.tmp 49) (.tmp 50) 43 rfl w.heap.size 3 i0 _ 1 8 Try.underlying43 hi0 hz0 hz1 hz2 rfl (by omega) _ l.length _ rfl (HO.out.alloc _) _ _ 1 1 (siC (.one)) rfl rfl (cells_lit wr #[.int .i64 (256)] 3) (by simp [siC, Value.oneCell']) (by simp only [maxLen]; omega) (by omega) (by have := HB.out.size; first | (simp; done) | (simp; omega)) (by simp) ?_; intro v4 w4 hown4 hg4 _)
        have HI4 := hide (show RElsAt w s (k + 1) v4 w4 from ⟨l ++ [.one], by rw [List.append_assoc, ← HL.out]; exact congrArg (l ++ ·) HS2.out.symm, by rw [List.length_append]; simp; omega, by have := hown4; simpa using this, (HB.out.alloc HB.out.size _).grown hg4 (by have := HB.out.size; rw [World.size_alloc]; omega) (fun q hq => (HO.out.lt q hq).1)⟩)
        clear hown4 hg4 HO HB HL HS2
        go_wp2_with fail
        go_roundw
        case rel => exact ⟨k + 1, by omega, by go_num, HI4⟩
        case measure => simp [intOf]; omega
      · have c3 : ((s[k].toNat : Int) == 92) = true := by rw [h1]; rfl
        have h3i : (k : Int) + 1 < s.size := by omega
        have hw : IntKind.i64.wrap ((k : Int) + 1) = (k : Int) + 1 := IntWalk.i64_in _ (by omega)
        have hc := s[k + 1].toNat_lt
        have hwc : IntKind.i64.wrap (s[k + 1].toNat : Int) = (s[k + 1].toNat : Int) := IntWalk.i64_in _ (by omega)
        have Q := hide (fun W => rspecial_c s[k + 1] W)
        rw [h4] at Q
        clear h1 h4
        have HO := hide hown
        have HB := hide hb
        have HL := hide hl
        have HS2 := hide h2
        clear hown hb hl h2 HI
        go_wp2_with fail
        refine (Q.out _).mono ?_
        rintro e w2 ⟨rfl, rfl⟩
        clear Q
        go_wp2_with (at_builtin; refine wpList_app rfl (.tmp 31) (.tmp 36) 43 rfl w.heap.size 3 i0 _ 1 8 Try.underlying43 hi0 hz0 hz1 hz2 rfl (by omega) _ l.length _ rfl (HO.out.alloc _) _ _ 1 1 (siC (.byte s[k + 1])) rfl rfl (cells_lit wr #[.int .i64 (s[k + 1].toNat)] 3) (by simp [siC, Value.oneCell']) (by simp only [maxLen]; omega) (by omega) (by have := HB.out.size; first | (simp; done) | (simp; omega)) (by simp) ?_; intro v4 w4 hown4 hg4 _)
        have HI4 := hide (show RElsAt w s (k + 1 + 1) v4 w4 from ⟨l ++ [.byte s[k + 1]], by rw [List.append_assoc, ← HL.out]; exact congrArg (l ++ ·) HS2.out.symm, by rw [List.length_append]; simp; omega, by have := hown4; simpa using this, (HB.out.alloc HB.out.size _).grown hg4 (by have := HB.out.size; rw [World.size_alloc]; omega) (fun q hq => (HO.out.lt q hq).1)⟩)
        clear hown4 hg4 HO HB HL HS2
        go_wp2_with fail
        go_roundw
        case rel => exact ⟨k + 1 + 1, by omega, by go_num, HI4⟩
        case measure => simp [intOf]; omega
      · have c1 : ((s[k].toNat : Int) == 37) = false := by rw [show ((s[k].toNat : Int) == 37) = (s[k] == UInt8.ofNat 37) from byte_eq s[k] 37 (by omega)]; simpa using h1
        have c2 : ((s[k].toNat : Int) == 95) = false := by rw [show ((s[k].toNat : Int) == 95) = (s[k] == UInt8.ofNat 95) from byte_eq s[k] 95 (by omega)]; simpa using h3
        have hw : IntKind.i64.wrap ((k : Int) + 1) = (k : Int) + 1 := IntWalk.i64_in _ (by omega)
        have hc := s[k].toNat_lt
        have hwc : IntKind.i64.wrap (s[k].toNat : Int) = (s[k].toNat : Int) := IntWalk.i64_in _ (by omega)
        clear h1 h3
        have HO := hide hown
        have HB := hide hb
        have HL := hide hl
        have HS2 := hide h2
        clear hown hb hl h2 HI
        by_cases h9 : s[k] = 92
        · have c3 : ((s[k].toNat : Int) == 92) = true := by rw [h9]; rfl
          rcases h4 with h4 | h4 | ⟨h4, h5⟩
          · exact absurd h9 h4
          · have h4i : ¬ (k : Int) + 1 < s.size := by omega
            clear h9 h4
            go_wp2_with (at_builtin; refine wpList_app rfl (.tmp 52) (.tmp 57) 43 rfl w.heap.size 3 i0 _ 1 8 Try.underlying43 hi0 hz0 hz1 hz2 rfl (by omega) _ l.length _ rfl (HO.out.alloc _) _ _ 1 1 (siC (.byte s[k])) rfl rfl (cells_lit wr #[.int .i64 (s[k].toNat)] 3) (by simp [siC, Value.oneCell']) (by simp only [maxLen]; omega) (by omega) (by have := HB.out.size; first | (simp; done) | (simp; omega)) (by simp) ?_; intro v4 w4 hown4 hg4 _)
            have HI4 := hide (show RElsAt w s (k + 1) v4 w4 from ⟨l ++ [.byte s[k]], by rw [List.append_assoc, ← HL.out]; exact congrArg (l ++ ·) HS2.out.symm, by rw [List.length_append]; simp; omega, by have := hown4; simpa using this, (HB.out.alloc HB.out.size _).grown hg4 (by have := HB.out.size; rw [World.size_alloc]; omega) (fun q hq => (HO.out.lt q hq).1)⟩)
            clear hown4 hg4 HO HB HL HS2
            go_wp2_with fail
            go_roundw
            case rel => exact ⟨k + 1, by omega, by go_num, HI4⟩
            case measure => simp [intOf]; omega
          · have h4i : (k : Int) + 1 < s.size := by omega
            have Q := hide (fun W => rspecial_c s[k + 1] W)
            rw [h5] at Q
            clear h9 h5
            go_wp2_with fail
            refine (Q.out _).mono ?_
            rintro e w2 ⟨rfl, rfl⟩
            clear Q
            go_wp2_with (at_builtin; refine wpList_app rfl (.tmp 52) (.tmp 57) 43 rfl w.heap.size 3 i0 _ 1 8 Try.underlying43 hi0 hz0 hz1 hz2 rfl (by omega) _ l.length _ rfl (HO.out.alloc _) _ _ 1 1 (siC (.byte s[k])) rfl rfl (cells_lit wr #[.int .i64 (s[k].toNat)] 3) (by simp [siC, Value.oneCell']) (by simp only [maxLen]; omega) (by omega) (by have := HB.out.size; first | (simp; done) | (simp; omega)) (by simp) ?_; intro v4 w4 hown4 hg4 _)
            have HI4 := hide (show RElsAt w s (k + 1) v4 w4 from ⟨l ++ [.byte s[k]], by rw [List.append_assoc, ← HL.out]; exact congrArg (l ++ ·) HS2.out.symm, by rw [List.length_append]; simp; omega, by have := hown4; simpa using this, (HB.out.alloc HB.out.size _).grown hg4 (by have := HB.out.size; rw [World.size_alloc]; omega) (fun q hq => (HO.out.lt q hq).1)⟩)
            clear hown4 hg4 HO HB HL HS2
            go_wp2_with fail
            go_roundw
            case rel => exact ⟨k + 1, by omega, by go_num, HI4⟩
            case measure => simp [intOf]; omega
        · have c3 : ((s[k].toNat : Int) == 92) = false := by rw [show ((s[k].toNat : Int) == 92) = (s[k] == UInt8.ofNat 92) from byte_eq s[k] 92 (by omega)]; simpa using h9
          clear h9 h4
          go_wp2_with (at_builtin; refine wpList_app rfl (.tmp 52) (.tmp 57) 43 rfl w.heap.size 3 i0 _ 1 8 Try.underlying43 hi0 hz0 hz1 hz2 rfl (by omega) _ l.length _ rfl (HO.out.alloc _) _ _ 1 1 (siC (.byte s[k])) rfl rfl (cells_lit wr #[.int .i64 (s[k].toNat)] 3) (by simp [siC, Value.oneCell']) (by simp only [maxLen]; omega) (by omega) (by have := HB.out.size; first | (simp; done) | (simp; omega)) (by simp) ?_; intro v4 w4 hown4 hg4 _)
          have HI4 := hide (show RElsAt w s (k + 1) v4 w4 from ⟨l ++ [.byte s[k]], by rw [List.append_assoc, ← HL.out]; exact congrArg (l ++ ·) HS2.out.symm, by rw [List.length_append]; simp; omega, by have := hown4; simpa using this, (HB.out.alloc HB.out.size _).grown hg4 (by have := HB.out.size; rw [World.size_alloc]; omega) (fun q hq => (HO.out.lt q hq).1)⟩)
          clear hown4 hg4 HO HB HL HS2
          go_wp2_with fail
          go_roundw
          case rel => exact ⟨k + 1, by omega, by go_num, HI4⟩
          case measure => simp [intOf]; omega
    · obtain rfl : k = s.size := by omega
      obtain ⟨l, hl, hlk, hown, hb⟩ := HI.out
      have e : s.data.toList.drop s.size = [] := List.drop_of_length_le (by rw [str_len]; omega)
      rw [e] at hl
      have hl2 : l = signsL s.data.toList := by rw [← hl]; simp [signsL]
      obtain ⟨A, c, rfl, hS⟩ := sl_of_own hown siC_len
      have HS := hide hS
      have HB := hide hb
      have HL2 := hide hl2
      clear hl2 hl hown hb hS HI
      go_wp2_with fail
      go_ret
      unfold GivesI
      rw [← HL2.out]
      exact ⟨A, c, rfl, HS.out, HB.out⟩
end Go.Proofs.Ytlkeghfdpbfhbaa
