/- The calls' contracts in one form, the same for the program and the reference. -/
import Derived.Test.YtdfpmjfnlcccaaaDkP
namespace Go.Proofs.Ytdfpmjfnlcccaaa
set_option linter.unusedVariables false
open Go.ChangeShapes Go.WideShapes Go.ChangeAt Go.RowKit

/-- A disk of n sectors in memory. -/
def DkAt (w : World) (A : Option Addr) (n c : Nat) (l : List ByteArray) : Prop := SlAt stC 1 w w.heap.size A n c l
theorem DkAt.kept {w w' : World} {A : Option Addr} {n c : Nat} {l : List ByteArray} (h : DkAt w A n c l) (hb : Below w.heap.size w w') : DkAt w' A n c l := SlAt.kept h hb
theorem DkAt.put {w : World} {g n c : Nat} {A : Option Addr} {l : List ByteArray} {v u : Value} {x y : Int} {z b : Bool} (h : DkAt w A n c l) (hx : DBox w g v x z) (hv : ∀ s, v ≠ .string s) (hu : ∀ s, u ≠ .string s) : DkAt (((w.setCell ⟨g, 0, none⟩ u).setCell ⟨g, 1, none⟩ (.int .i64 y)).setCell ⟨g, 2, none⟩ (.bool b)) A n c l :=
  (sl_far3 h hx hv u hu y b).more (show _ ≤ _ by simp)
def GivesN (n : Nat) (w : World) (x : DiskV × Int) (e : Ending) (w' : World) : Prop := ∃ A c, e = .returned (.tuple #[.agg #[.slice A n c, .int .i64 x.1.left, .bool x.1.down], .int .i64 x.2]) ∧ DkAt w' A n c x.1.secs ∧ Below w.heap.size w w'
def GivesK (n : Nat) (w : World) (d : DiskV) (e : Ending) (w' : World) : Prop := ∃ A c, e = .returned (.agg #[.slice A n c, .int .i64 d.left, .bool d.down]) ∧ DkAt w' A n c d.secs ∧ Below w.heap.size w w'
theorem GivesV.n {n : Nat} {w w' : World} {x : DiskV × Int} {e : Ending} (h : GivesV w x e w') (hn : x.1.secs.length = n) : GivesN n w x e w' := by
  subst hn
  exact h
theorem GivesO.k {n : Nat} {w w' : World} {x : DiskV} {e : Ending} (h : GivesO w x e w') (hn : x.secs.length = n) : GivesK n w x e w' := by
  subst hn
  exact h
section
variable {A : Option Addr} {n c : Nat} {d : DiskV} {w : World}
theorem cWrite (at' : Int) (b : ByteArray) (h : DkAt w A n c d.secs) (hn : n ≤ 1048576) (hl : Left64 d) : Calls Try.prog 11 #[.agg #[.slice A n c, .int .i64 d.left, .bool d.down], .int .i64 at', .string b] w (GivesN n w (writeD d at' b)) :=
  (Write_c A n c d at' b w h hn hl).mono fun _ _ q => q.v.n (by rw [writeD_len]; exact h.len)
theorem rcWrite (at' : Int) (b : ByteArray) (h : DkAt w A n c d.secs) (hn : n ≤ 1048576) (hl : Left64 d) : Calls Try.prog 12 #[.agg #[.slice A n c, .int .i64 d.left, .bool d.down], .int .i64 at', .string b] w (GivesN n w (writeD d at' b)) :=
  (rWrite_c A n c d at' b w h hn hl).mono fun _ _ q => q.n (by rw [writeD_len]; exact h.len)
theorem writeFrom_len (p : ByteArray) (a : Int) : ∀ (f k : Nat) (d : DiskV), (writeFrom p a k f d).1.secs.length = d.secs.length
  | 0, _, _ => rfl
  | f + 1, k, d => by
    rw [writeFrom]
    split
    · exact writeD_len _ _ _
    · rw [writeFrom_len p a f, writeD_len]
theorem writeP_len (d : DiskV) (a : Int) (p : ByteArray) : (writeP d a p).1.secs.length = d.secs.length := by
  unfold writeP
  split
  · rfl
  · split
    · rfl
    · exact writeFrom_len p a 4 0 d
theorem writeFrom_left (p : ByteArray) (a : Int) : ∀ (f k : Nat) (d : DiskV), Left64 d → Left64 (writeFrom p a k f d).1
  | 0, _, _, h => h
  | f + 1, k, d, h => by
    rw [writeFrom]
    split
    · exact writeD_left h _ _
    · exact writeFrom_left p a f (k + 1) _ (writeD_left h _ _)
theorem writeP_left {d : DiskV} (h : Left64 d) (a : Int) (p : ByteArray) : Left64 (writeP d a p).1 := by
  unfold writeP
  split
  · exact h
  · split
    · exact h
    · exact writeFrom_left p a 4 0 d h
/-- All sectors are of 128 bytes. -/
def Sec128 (d : DiskV) : Prop := ∀ s ∈ d.secs, s.size = 128
theorem writeD_sec {d : DiskV} (h : Sec128 d) (a : Int) (b : ByteArray) : Sec128 (writeD d a b).1 := by
  rcases writeD_cases d a b with ⟨_, hr⟩ | ⟨_, _, hr⟩ | ⟨_, _, _, _, _, hr⟩ | ⟨_, _, _, h4, _, hr⟩ | ⟨_, _, _, h4, _, hr⟩
  · rw [hr]; exact h
  · rw [hr]; exact h
  · rw [hr]; exact h
  all_goals
    rw [hr]
    intro s hs
    rcases List.mem_or_eq_of_mem_set hs with hs | rfl
    · exact h s hs
    · exact h4
theorem writeFrom_sec (p : ByteArray) (a : Int) : ∀ (f k : Nat) (d : DiskV), Sec128 d → Sec128 (writeFrom p a k f d).1
  | 0, _, _, h => h
  | f + 1, k, d, h => by
    rw [writeFrom]
    split
    · exact writeD_sec h _ _
    · exact writeFrom_sec p a f (k + 1) _ (writeD_sec h _ _)
theorem writeP_sec {d : DiskV} (h : Sec128 d) (a : Int) (p : ByteArray) : Sec128 (writeP d a p).1 := by
  unfold writeP
  split
  · exact h
  · split
    · exact h
    · exact writeFrom_sec p a 4 0 d h
theorem newD_sec (n : Int) : Sec128 (newD n).1 := by
  unfold newD
  split
  · intro s hs; cases hs
  · intro s hs
    rw [(List.mem_replicate.1 hs).2]
    exact zeroS_size
theorem newD_left (n : Int) : Left64 (newD n).1 := by
  unfold newD
  split
  · exact ⟨by decide, by decide⟩
  · exact ⟨(by omega : (-9223372036854775808 : Int) ≤ -1), (by omega : (-1 : Int) ≤ 9223372036854775807)⟩
theorem cWriteP (at' : Int) (p : ByteArray) (h : DkAt w A n c d.secs) (hn : n ≤ 1048576) (hl : Left64 d) : Calls Try.prog 15 #[.agg #[.slice A n c, .int .i64 d.left, .bool d.down], .int .i64 at', .string p] w (GivesN n w (writeP d at' p)) :=
  (WritePage_c A n c d at' p w h hn hl).mono fun _ _ q => q.v.n (by rw [writeP_len]; exact h.len)
theorem rcWriteP (at' : Int) (p : ByteArray) (h : DkAt w A n c d.secs) (hn : n ≤ 1048576) (hl : Left64 d) : Calls Try.prog 17 #[.agg #[.slice A n c, .int .i64 d.left, .bool d.down], .int .i64 at', .string p] w (GivesN n w (writeP d at' p)) :=
  (rWritePage_c A n c d at' p w h hn hl).mono fun _ _ q => q.n (by rw [writeP_len]; exact h.len)
theorem cRead (at' : Int) (h : DkAt w A n c d.secs) (hn : n ≤ 1048576) : Calls Try.prog 13 #[.agg #[.slice A n c, .int .i64 d.left, .bool d.down], .int .i64 at'] w (GivesR w (readD d at')) := Read_c A n c d at' w h hn
theorem rcRead (at' : Int) (h : DkAt w A n c d.secs) (hn : n ≤ 1048576) : Calls Try.prog 14 #[.agg #[.slice A n c, .int .i64 d.left, .bool d.down], .int .i64 at'] w (GivesR w (readD d at')) := rRead_c A n c d at' w h hn
theorem cReadP (at' : Int) (h : DkAt w A n c d.secs) (hn : n ≤ 1048576) (hs : Sec128 d) (ha : -9223372036854775808 ≤ at' ∧ at' ≤ 9223372036854775807) : Calls Try.prog 18 #[.agg #[.slice A n c, .int .i64 d.left, .bool d.down], .int .i64 at'] w (GivesR w (readP d at')) := ReadPage_c A n c d at' w h hn hs ha
theorem rcReadP (at' : Int) (h : DkAt w A n c d.secs) (hn : n ≤ 1048576) (hs : Sec128 d) (ha : -9223372036854775808 ≤ at' ∧ at' ≤ 9223372036854775807) : Calls Try.prog 19 #[.agg #[.slice A n c, .int .i64 d.left, .bool d.down], .int .i64 at'] w (GivesR w (readP d at')) := rReadPage_c A n c d at' w h hn hs ha
theorem cArm (m : Int) (h : DkAt w A n c d.secs) (hn : n ≤ 1048576) : Calls Try.prog 20 #[.agg #[.slice A n c, .int .i64 d.left, .bool d.down], .int .i64 m] w (GivesK n w (armD d m)) :=
  (Arm_c A n c d m w h hn).mono fun _ _ q => (GivesF.o q).k h.len
theorem rcArm (m : Int) (h : DkAt w A n c d.secs) : Calls Try.prog 21 #[.agg #[.slice A n c, .int .i64 d.left, .bool d.down], .int .i64 m] w (GivesK n w (armD d m)) :=
  (rArm_c A n c d m w h).mono fun _ _ q => q.k h.len
theorem cStart (h : DkAt w A n c d.secs) (hn : n ≤ 1048576) : Calls Try.prog 22 #[.agg #[.slice A n c, .int .i64 d.left, .bool d.down]] w (GivesK n w (startD d)) :=
  (Start_c A n c d w h hn).mono fun _ _ q => (GivesF.o q).k h.len
theorem rcStart (h : DkAt w A n c d.secs) : Calls Try.prog 23 #[.agg #[.slice A n c, .int .i64 d.left, .bool d.down]] w (GivesK n w (startD d)) :=
  (rStart_c A n c d w h).mono fun _ _ q => q.k h.len
theorem cNew (m : Int) (hm : (newD m).1.secs.length = n) : Calls Try.prog 7 #[.int .i64 m] w (GivesN n w (newD m)) := (New_c m w).mono fun _ _ q => q.v.n hm
theorem rcNew (m : Int) (hm : (newD m).1.secs.length = n) : Calls Try.prog 8 #[.int .i64 m] w (GivesN n w (newD m)) := (rNew_c m w).mono fun _ _ q => q.v.n hm
end
theorem cSame (d : DiskV) {A1 A2 : Option Addr} {n c1 c2 : Nat} {w : World} (h1 : DkAt w A1 n c1 d.secs) (h2 : DkAt w A2 n c2 d.secs) : Calls Try.prog 10 #[.agg #[.slice A1 n c1, .int .i64 d.left, .bool d.down], .agg #[.slice A2 n c2, .int .i64 d.left, .bool d.down]] w fun e w' => e = .returned (.bool true) ∧ Below w.heap.size w w' := by
  obtain rfl := SlAt.len h1
  exact Same_c A1 A2 c1 c2 d w h1 h2
theorem cMay (d : DiskV) {A : Option Addr} {n c : Nat} {w : World} (h : DkAt w A n c d.secs) : Calls Try.prog 24 #[.agg #[.slice A n c, .int .i64 d.left, .bool d.down]] w fun e w' => e = .returned (.bool (mayB d)) ∧ Below w.heap.size w w' := by
  obtain rfl := SlAt.len h
  exact May_c A c d w h
theorem may_facts {d : DiskV} (h : mayB d = true) : Sec128 d ∧ 1 ≤ d.secs.length ∧ d.secs.length ≤ 65536 ∧ -1 ≤ d.left ∧ (d.down = false ∨ d.left = 0) := by
  unfold mayB at h
  rw [Bool.and_eq_true, decide_eq_true_iff] at h
  refine ⟨fun s hs => ?_, h.2⟩
  have := List.all_eq_true.1 h.1 s hs
  simpa using this
end Go.Proofs.Ytdfpmjfnlcccaaa
