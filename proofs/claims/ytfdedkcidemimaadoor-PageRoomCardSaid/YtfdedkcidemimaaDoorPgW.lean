/- Pages: content.bytes. -/
import Derived.Test.YtfdedkcidemimaaDoorPgV
namespace Go.Proofs.YtfdedkcidemimaaDoor
set_option linter.unusedVariables false
set_option linter.unusedSimpArgs false
open Go.ChangeShapes Go.WideShapes Go.ChangeAt Go.RowKit

theorem cells_hl {a b : Nat} (ha : a < 65536) (hb : b < 65536) : Lib.byteCells [hiB a, loB a, hiB b, loB b] = [.int .u8 ((a : Int) / 256), .int .u8 ((a : Int) % 256), .int .u8 ((b : Int) / 256), .int .u8 ((b : Int) % 256)] := by
  have h1 : ∀ c : Nat, c < 65536 → ((hiB c).toNat : Int) = (c : Int) / 256 := fun c hc => by unfold hiB; rw [UInt8.toNat_ofNat']; omega
  have h2 : ∀ c : Nat, ((loB c).toNat : Int) = (c : Int) % 256 := fun c => by unfold loB; rw [UInt8.toNat_ofNat']; omega
  simp only [Lib.byteCells, List.map_cons, List.map_nil, h1 a ha, h1 b hb, h2]
theorem run_cp {w : World} {ty : TypeId} {g off dLen dCap : Nat} {r : ByteArray} {l : List UInt8} (hg : RowB w g l) (hle : r.size ≤ dLen) (hfit : off + r.size ≤ l.length) :
    (Builtin.copy_ #[40, 9] ty #[.slice (some ⟨g, off, none⟩) dLen dCap, .string r]).run Tryd.prog w = .ok (.int .i64 r.size) (w.setRow g (Lib.byteCells (l.take off ++ r.data.toList ++ l.drop (off + r.size))).toArray) := by
  obtain ⟨i0, hi0, hz0, hz1, hz2⟩ := info_parts u8_info
  have hrun := Lib.run_copy_row_string (P := Tryd.prog) w 40 9 ty 5 g off dLen dCap r _ 5 Tryd.underlying40 (by rw [hi0]; simp [hz1]) hg hle (by rw [List.size_toArray, Lib.byteCells_length]; exact hfit)
  have e : ((Lib.byteCells l).toArray.toList.take off ++ Lib.byteCells r.data.toList ++ (Lib.byteCells l).toArray.toList.drop (off + r.size)) = Lib.byteCells (l.take off ++ r.data.toList ++ l.drop (off + r.size)) := by
    simp [Lib.byteCells, List.map_take, List.map_drop]
  rw [e] at hrun
  exact hrun
theorem nums_bytes (l : List UInt8) : strOfNums (l.map fun b => (b.toNat : Int)) = bytesOf l := by
  unfold strOfNums bytesOf
  congr 2
  induction l with
  | nil => rfl
  | cons a l ih => simp only [List.map_cons, ih, Int.toNat_natCast, UInt8.ofNat_toNat]
theorem cv_nil (W : World) : (convert 40 9 (.slice none 0 0)).run Tryd.prog W = .ok (.string ⟨#[]⟩) W := by kernel_rfl
theorem OwnB.form {W : World} {B : Nat} {v : Value} {l : List UInt8} (h : OwnB W B v l) : ∃ A c, v = .slice A l.length c := by
  rcases h.2 with ⟨hv, hz⟩ | ⟨g, cap, cur, hv, _⟩
  · exact ⟨none, 0, by rw [hv, hz]⟩
  · exact ⟨_, _, hv⟩
theorem cv_own {W : World} {B : Nat} {v : Value} {l : List UInt8} (h : OwnB W B v l) : (convert 40 9 v).run Tryd.prog W = .ok (.string (bytesOf l)) W := by
  rcases h.2 with ⟨hv, hz⟩ | ⟨g, cap, cur, hv, hb, hh, hnc, hm, hcs, ht⟩
  · obtain rfl := List.eq_nil_of_length_eq_zero hz
    rw [hv]
    exact cv_nil W
  · rw [hv, ← nums_bytes]
    refine run_convert_bytes_arg W 40 5 Tryd.underlying40 Tryd.underlying5 g 0 l.length cap (l.map fun b => (b.toNat : Int)) (by simp) ?_ 9 Tryd.underlying9
    intro i hi
    rw [Nat.zero_add]
    refine (cell_of_row W g i cur _ (0, 0) hh).trans ?_
    have h2 := congrArg (·[i]?) ht
    simp only [Nat.mul_one] at h2
    rw [List.getElem?_take, if_pos hi, Array.getElem?_toList] at h2
    rw [h2]
    simp [Lib.byteCells, hi]
theorem cv_tail {W : World} {g n : Nat} {a l : List UInt8} (h : RowB W g (a ++ l)) (hl : l.length = n) : (convert 40 9 (.slice (some ⟨g, a.length, none⟩) n n)).run Tryd.prog W = .ok (.string (bytesOf l)) W := by
  subst hl
  rw [← nums_bytes]
  refine run_convert_bytes_arg W 40 5 Tryd.underlying40 Tryd.underlying5 g a.length l.length l.length (l.map fun b => (b.toNat : Int)) (by simp) ?_ 9 Tryd.underlying9
  intro i hi
  refine (cell_of_row W g (a.length + i) _ _ (0, 0) h).trans ?_
  simp [Lib.byteCells, hi]
theorem cv_tail2 {W : World} {g bg : Nat} {rs : List UInt8} (h : RowB W g (List.replicate bg 0 ++ rs)) (hl : rs.length + bg = 512) : (convert 40 9 (.slice (if 512 = bg then some ⟨g, 0, none⟩ else some ⟨g, bg, none⟩) (512 - bg) (512 - bg))).run Tryd.prog W = .ok (.string (bytesOf rs)) W := by
  by_cases hb : 512 = bg
  · rw [if_pos hb]
    subst hb
    obtain rfl : rs = [] := List.eq_nil_of_length_eq_zero (by omega)
    exact run_convert_bytes_arg W 40 5 Tryd.underlying40 Tryd.underlying5 g 0 0 0 [] rfl (fun i hi => by omega) 9 Tryd.underlying9
  · rw [if_neg hb]
    have := cv_tail (n := 512 - bg) h (by omega)
    rw [List.length_replicate] at this
    exact this
def TwoAt (W : World) (g : Nat) (a : Int) : Prop := W.heap[g]? = some (.cells #[.int .u8 a, .int .u8 0] 5 (0, 0))
theorem TwoAt.kept {W W' : World} {g : Nat} {a : Int} (h : TwoAt W g a) (hb : Below W.heap.size W W') : TwoAt W' g a := (hb.block g (Array.getElem?_eq_some_iff.1 h).1).trans h
theorem two_new (W : World) (a : Int) : TwoAt (W.alloc (.cells #[.int .u8 a, .int .u8 0] 5)) W.heap.size a := heap_alloc_new W _
theorem cv_two {W : World} {g : Nat} {a : Int} (h : TwoAt W g a) : (convert 40 9 (.slice (some ⟨g, 0, none⟩) 2 2)).run Tryd.prog W = .ok (.string (strOfNums [a, 0])) W := by
  refine run_convert_bytes_arg W 40 5 Tryd.underlying40 Tryd.underlying5 g 0 2 2 [a, 0] rfl ?_ 9 Tryd.underlying9
  intro i hi
  rw [Nat.zero_add]
  match i, hi with
  | 0, _ => exact cell_of_row W g 0 _ _ _ h
  | 1, _ => exact cell_of_row W g 1 _ _ _ h
set_option maxRecDepth 100000 in
set_option maxHeartbeats 4000000 in
theorem bytes_c (x y z : Int) (A : Option Addr) (n c : Nat) (l : List ByteArray) (w : World) (h : SlAt stC 1 w w.heap.size A n c l) (hn : sizeN l ≤ 512) (hy : 0 ≤ y ∧ y ≤ 255) : Calls Tryd.prog 59 #[.agg #[.int .i64 x, .int .i64 y, .int .i64 z, .slice A n c]] w fun e w' => e = .returned (.string (layL ⟨x, y, z, l⟩)) ∧ Below w.heap.size w w' := by
  obtain ⟨i0, hi0, hz0, hz1, hz2⟩ := info_parts u8_info
  have HL := hide h.len
  have hB := Bel.one w (.cells #[.int .i64 x, .int .i64 y, .int .i64 z, .slice A n c] 52)
  have H0 := hide h
  have HX0 := hide (cbx_new w x y z (.slice A n c))
  have HB0 := hide hB
  obtain ⟨R, hR⟩ : ∃ R, layL ⟨x, y, z, l⟩ = R := ⟨_, rfl⟩
  rw [hR]
  have HR := hide hR
  have hn3 : 4 * n ≤ 493 := by rw [← h.len]; unfold sizeN at hn; omega
  have HOK := hide (fun k (hk : k ≤ n) => layF_ok l k (by rw [h.len]; exact hk) (by unfold sizeN at hn; omega))
  have HNX := hide (fun k r (hk : l[k]? = some r) => @layF_next l k r hk)
  have HTK := hide (fun k r (hk : l[k]? = some r) => (show sumS (l.take (k + 1)) = sumS (l.take k) + r.size by rw [take_at hk, sumS_append]; simp [sumS]))
  have HST := hide (fun k => sumS_take l k)
  have HS5 := hide (show sumS l ≤ 493 by unfold sizeN at hn; omega)
  have HZ := hide (show 19 + 4 * n + sumS l ≤ 512 by rw [← h.len]; unfold sizeN at hn; omega)
  clear hR h hB hn
  have hmk := fun W => mk512 W
  go_enter Tryd.func59, Tryd.ntmps59
  go_upto_region 1 with (fail)
  have hlt1 : w.heap.size < (w.alloc (.cells #[.int .i64 x, .int .i64 y, .int .i64 z, .slice A n c] 52)).heap.size := HX0.out.lt
  generalize w.alloc (.cells #[.int .i64 x, .int .i64 y, .int .i64 z, .slice A n c] 52) = w1 at *
  go_upto_region 2 with (at_make; refine wpList_make_own _ rfl (.const (.int .i64 0)) (.const (.int .i64 512)) 40 rfl w.heap.size 5 i0 _ 1 Tryd.underlying40 hi0 hz0 hz1 .i64 .i64 512 512 rfl rfl rfl (by rw [hz2]; omega) (by unfold maxLen; omega) (Nat.le_of_lt hlt1) ?_; intro w2 hown hg)
  have hX2 := HX0.out.grown hg (by simp)
  have hB2 := own_grown HB0.out hg (by simp)
  have hS2 := hg.size
  go_upto_region 3 with (fail)
  have hrow := RowB.new w2 (List.replicate 512 0)
  rw [← made_zeros] at hrow
  have hbel := Bel.one w2 (.cells (madeCells #[.int .u8 0] 512) 5)
  have hS0 : BtS w w.heap.size x y z (.slice A n c) w2.heap.size (layF (l.take 0)) (.slice (some ⟨w1.heap.size, 0, none⟩) 0 512) (w2.alloc (.cells (madeCells #[.int .u8 0] 512) 5)) := by
    refine ⟨hX2.kept hbel, own_below hown hbel, ?_, ?_, Nat.lt_of_lt_of_le hlt1 hS2, Nat.le_refl _, Bel.then hB2 hbel⟩
    · show RowB _ _ (List.replicate 512 0 ++ [])
      rw [List.append_nil]
      exact hrow
    · show some w1.heap.size ≠ some w2.heap.size
      have : w1.heap.size < w2.heap.size := (hown.lt _ rfl).2
      intro e
      injection e with e
      omega
  have HS0 := hide hS0
  clear hS0 hrow hbel hown hX2 hB2 hmk HX0 HB0
  generalize w2.alloc (.cells (madeCells #[.int .u8 0] 512) 5) = w3 at *
  generalize w2.heap.size = gr at *
  clear hg
  generalize w1.heap.size = gs at *
  clear hS2 hlt1
  have hX3 := HS0.out.bx
  obtain ⟨c0, c1, c2, c3, f0, f1, f2, f3⟩ := hX3.cells
  clear hX3
  go_wp2_with fail
  clear c0 c1 c2 c3 f0 f1 f2 f3
  go_loopw [3, 5, 7, 8, 15] (fun s b _ _ i wr => ∃ k : Nat, k ≤ n ∧ i = .int .i64 k ∧ b = .int .i64 (layF (l.take k)).at' ∧ Hid (BtS w w.heap.size x y z (.slice A n c) gr (layF (l.take k)) s wr)) (fun _ _ _ _ i _ => n - (intOf i).toNat)
  case atStart => exact ⟨0, Nat.zero_le _, rfl, rfl, HS0⟩
  case round =>
    clear HS0
    obtain ⟨k, hk, rfl, rfl, HS⟩ := hrel
    by_cases hlt : k < n
    · have hlti : (k : Int) < n := by omega
      have hwk : IntKind.i64.wrap ((k : Int) + 1) = (k : Int) + 1 := IntWalk.i64_in _ (by omega)
      have hat := (H0.out.kept HS.out.hb).at (by decide) hlt
      obtain ⟨b, off, r, rfl, _, hx, hc⟩ := hat
      have d0 := hc 0 _ rfl
      simp only [Nat.mul_one, Nat.add_zero] at d0
      clear hc
      have hok := HOK.out k hk
      have hnx := HNX.out k r hx
      have htk := HTK.out k r hx
      have hst := HST.out (k + 1)
      have h5 := HS5.out
      have hat' := hok.at'
      have hsl := hok.slots
      have hlk : (l.take k).length = k := by rw [List.length_take, HL.out]; omega
      rw [hlk] at hsl
      clear hok hlk
      generalize layF (l.take k) = V at *
      obtain ⟨V2, hV2⟩ : ∃ V2, layF (l.take (k + 1)) = V2 := ⟨_, rfl⟩
      rw [hV2] at hnx
      have HV2 := hide hV2
      clear hV2
      generalize sumS (l.take (k + 1)) = S2 at *
      generalize sumS (l.take k) = S1 at *
      obtain ⟨bg, sl, rs⟩ := V
      simp only at hat' hsl
      have hbg : bg ≤ 512 := by omega
      have hrb : r.size ≤ bg := by omega
      have hsl2 : sl.length ≤ 493 := by omega
      have HNX2 := hide hnx
      clear hst h5 hat' hsl htk hnx
      by_cases hr : r.size = 0
      · obtain rfl : r = ⟨#[]⟩ := by
          apply ByteArray.ext
          exact Array.eq_empty_of_size_eq_zero hr
        have hv2 : V2 = ⟨bg, sl ++ [0, 0, 0, 0], rs⟩ := HNX2.out
        subst hv2
        clear hr hrb HNX2
        have HLT := hide (show Cells (wr.alloc (.cells #[.int .u8 0, .int .u8 0, .int .u8 0, .int .u8 0] 5)) (wr.heap.size + 1) (some ⟨wr.heap.size, 0, none⟩) (Lib.byteCells [0, 0, 0, 0]) from cells_lit wr _ _)
        have HS1 := hide (HS.out.kept (Bel.one wr (.cells #[.int .u8 0, .int .u8 0, .int .u8 0, .int .u8 0] 5)))
        go_wp2_with (at_builtin; refine wpList_app rfl (.tmp 31) (.tmp 44) 40 rfl w.heap.size 5 i0 _ 1 1 Tryd.underlying40 hi0 hz0 hz1 hz2 rfl (by omega) _ sl.length _ rfl HS1.out.own _ _ 4 4 (Lib.byteCells [0, 0, 0, 0]) rfl rfl HLT.out (Lib.byteCells_one _) (by unfold maxLen; omega) (by omega) HS1.out.hb.size (by simp) ?_; intro v5 w5 hown5 hg5 hat5)
        have HS5 := hide (HS1.out.app (news := [0, 0, 0, 0]) hown5 hg5 hat5)
        clear hown5 hg5 hat5 HS HS1 HLT
        go_roundw
        case rel => exact ⟨k + 1, by omega, by go_num, by rw [HV2.out], by rw [HV2.out]; exact HS5⟩
        case measure => simp [intOf]; omega
      · obtain ⟨b2, hb2⟩ : ∃ b2, bg - r.size = b2 := ⟨_, rfl⟩
        have hv2 : V2 = ⟨b2, sl ++ [hiB b2, loB b2, hiB r.size, loB r.size], r.data.toList ++ rs⟩ := by
          rw [← hb2, HNX2.out]
          unfold layS
          rw [if_neg hr]
        subst hv2
        have e1 : (r.toList == []) = false := by
          cases hq : r.toList with
          | nil => exact absurd (by have := congrArg List.length hq; rw [ByteArray.toList_eq] at this; simpa using this) hr
          | cons a t => rfl
        have HC2 := hide (show BtS w w.heap.size x y z _ gr ⟨b2, sl, r.data.toList ++ rs⟩ _ (wr.setRow gr (Lib.byteCells ((List.replicate bg 0 ++ rs).take b2 ++ r.data.toList ++ (List.replicate bg 0 ++ rs).drop (b2 + r.size))).toArray) by
          have := BtS.copy (r := r) HS.out hrb
          dsimp only at this
          rw [hb2] at this
          exact this)
        have w3' : IntKind.i64.wrap ((bg : Int) - (r.size : Int)) = (b2 : Int) := by rw [IntWalk.i64_in _ (by omega)]; omega
        have h1 : (b2 : Int) ≤ 512 := by omega
        obtain ⟨CS, hCS⟩ : ∃ CS, (Lib.byteCells ((List.replicate bg 0 ++ rs).take b2 ++ r.data.toList ++ (List.replicate bg 0 ++ rs).drop (b2 + r.size))).toArray = CS := ⟨_, rfl⟩
        have hcp := fun ty => run_cp (ty := ty) (dLen := 512 - b2) (dCap := 512 - b2) (off := b2) (r := r) HS.out.row (by omega) (by simp only [List.length_append, List.length_replicate]; omega)
        simp only at hcp
        rw [hCS] at hcp HC2
        clear hCS
        go_upto_region 11 with (fail)
        generalize wr.setRow gr CS = w4 at *
        clear HS hcp d0
        have hnews := cells_hl (a := b2) (b := r.size) (by omega) (by omega)
        have HLT := hide (show Cells (w4.alloc (.cells #[.int .u8 ((b2 : Int) / 256), .int .u8 ((b2 : Int) % 256), .int .u8 ((r.size : Int) / 256), .int .u8 ((r.size : Int) % 256)] 5)) (w4.heap.size + 1) (some ⟨w4.heap.size, 0, none⟩) (Lib.byteCells [hiB b2, loB b2, hiB r.size, loB r.size]) by rw [hnews]; exact cells_lit w4 _ _)
        have HS1 := hide (HC2.out.kept (Bel.one w4 (.cells #[.int .u8 ((b2 : Int) / 256), .int .u8 ((b2 : Int) % 256), .int .u8 ((r.size : Int) / 256), .int .u8 ((r.size : Int) % 256)] 5)))
        have HNW := hide (Lib.byteCells_one [hiB b2, loB b2, hiB r.size, loB r.size])
        generalize [hiB b2, loB b2, hiB r.size, loB r.size] = NW at *
        have hNW : NW.length = 4 := by have := congrArg List.length hnews; rw [Lib.byteCells_length] at this; exact this
        clear hnews HC2
        go_wp2_with (at_builtin; refine wpList_app rfl (.tmp 31) (.tmp 44) 40 rfl w.heap.size 5 i0 _ 1 1 Tryd.underlying40 hi0 hz0 hz1 hz2 rfl (by omega) _ sl.length _ rfl HS1.out.own _ _ 4 4 (Lib.byteCells NW) rfl (by rw [Lib.byteCells_length, hNW]) HLT.out HNW.out (by unfold maxLen; omega) (by omega) HS1.out.hb.size (by simp) ?_; intro v5 w5 hown5 hg5 hat5)
        have HS5 := hide (HS1.out.app (news := NW) (by rw [hNW]; exact hown5) hg5 hat5)
        clear hown5 hg5 hat5 HS1 HLT
        go_roundw
        case rel => exact ⟨k + 1, by omega, by go_num, by rw [HV2.out], by rw [HV2.out]; exact HS5⟩
        case measure => simp [intOf]; omega
    · have hlti : ¬ (k : Int) < n := by omega
      obtain rfl : k = n := by omega
      have hfull : l.take k = l := List.take_of_length_le (by rw [HL.out]; omega)
      have hok := HOK.out k (Nat.le_refl _)
      rw [hfull] at hok HS ⊢
      have hRR : R = (((((((⟨#[0, 0, 0, 0]⟩ ++ strOfNums (putL x 6)) ++ strOfNums [y, 0]) ++ strOfNums (putL z 3)) ++ strOfNums (putL l.length 2)) ++ strOfNums (putL (layF l).at' 2)) ++ bytesOf (layF l).slots) ++ zrs ((layF l).at' - 19 - 4 * l.length)) ++ bytesOf (layF l).recs := HR.out.symm
      rw [HL.out] at hRR
      obtain ⟨o1, o2, o3⟩ := hok
      rw [HL.out] at o2
      have h5 := HS5.out
      generalize layF l = V at *
      generalize sumS l = SL at *
      obtain ⟨bg, sl, rs⟩ := V
      dsimp only at o1 o2 o3 hRR
      have P6 := hide (fun W => put6 x W)
      have P3 := hide (fun W => put3 z W)
      have P2n := hide (fun W => put2 (k : Int) W)
      have P2b := hide (fun W => put2 (bg : Int) W)
      have s6 : (strOfNums (putL x 6)).size = 6 := by rw [strOf_size, putL_len]
      have s3 : (strOfNums (putL z 3)).size = 3 := by rw [strOf_size, putL_len]
      have s2n : (strOfNums (putL (k : Int) 2)).size = 2 := by rw [strOf_size, putL_len]
      have s2b : (strOfNums (putL (bg : Int) 2)).size = 2 := by rw [strOf_size, putL_len]
      have sk : (strOfNums [y, 0]).size = 2 := rfl
      generalize strOfNums (putL x 6) = X6 at *
      generalize strOfNums (putL z 3) = X3 at *
      generalize strOfNums (putL (k : Int) 2) = XN at *
      generalize strOfNums (putL (bg : Int) 2) = XB at *
      have HCV := hide (fun W g (hW : TwoAt W g y) => cv_two hW)
      generalize strOfNums [y, 0] = XK at *
      have t1 : (⟨#[0, 0, 0, 0]⟩ ++ X6 : ByteArray).size = 10 := by rw [app_size, s6]; rfl
      have t2 : (⟨#[0, 0, 0, 0]⟩ ++ X6 ++ XK : ByteArray).size = 12 := by rw [app_size, t1, sk]
      have t3 : (⟨#[0, 0, 0, 0]⟩ ++ X6 ++ XK ++ X3 : ByteArray).size = 15 := by rw [app_size, t2, s3]
      have t4 : (⟨#[0, 0, 0, 0]⟩ ++ X6 ++ XK ++ X3 ++ XN : ByteArray).size = 17 := by rw [app_size, t3, s2n]
      have wy : IntKind.u8.wrap y = y := by show y % 256 = y; omega
      have wy2 : y % 256 = y := by omega
      have HRR := hide hRR
      have O1 := hide o1
      have O2 := hide o2
      have O3 := hide o3
      have o4 := HZ.out
      have HZ2 := hide (show 19 + 4 * k ≤ bg by omega)
      clear o4 HZ hRR o1 o2 o3 h5 hfull HR HNX HTK HST HOK HS5 hlti hlt
      go_upto_region 14 with (fail)
      go_cut [9] from 47 to 68 (fun p wx => p = .string (((((⟨#[0, 0, 0, 0]⟩ ++ X6) ++ XK) ++ X3) ++ XN) ++ XB) ∧ BtS w w.heap.size x y z (.slice A k c) gr ⟨bg, sl, rs⟩ u3 wx)
      case first =>
        refine wp_region_held_drew (S := fun w' => BtS w w.heap.size x y z (.slice A k c) gr ⟨bg, sl, rs⟩ u3 w') (by kernel_rfl) (HS.out.kept (Below.refl _ _).drew) (fun hHeld => ?_)
        replace HS := hide (HS.out.kept (Below.refl wr.heap.size wr).drew)
        generalize wr.drew = wd at *
        clear hHeld
        first | (refine wpAnyH_take (i := 0) (v := ?_) nth0 (by kernel_rfl) (by kernel_rfl) (by kernel_rfl) (fun _ _ _ h => h) (Or.inl ⟨by rfl, ?_⟩) HS.out ?_; rotate_left; focus (intro wS hSw; obtain ⟨c0, c1, c2, c3, f0, f1, f2, f3⟩ := hSw.bx.cells; go_simp; try with_reducible rfl; done)) | (refine wpAnyH_take (i := 0) (v := undef) nth0 (by kernel_rfl) (by kernel_rfl) (by kernel_rfl) (fun _ _ _ h => h) (Or.inr ⟨by rfl, rfl⟩) HS.out ?_)
        (try simp only [Act.put]); (try simp only [List.setIfInBounds_toArray]); (try simp only [List.set_cons_succ]); (try simp only [List.set_cons_zero])
        first | (refine wpAnyH_take (i := 1) (v := ?_) nth1 (by kernel_rfl) (by kernel_rfl) (by kernel_rfl) (fun _ _ _ h => h) (Or.inl ⟨by rfl, ?_⟩) HS.out ?_; rotate_left; focus (intro wS hSw; obtain ⟨c0, c1, c2, c3, f0, f1, f2, f3⟩ := hSw.bx.cells; go_simp; try with_reducible rfl; done)) | (refine wpAnyH_take (i := 1) (v := undef) nth1 (by kernel_rfl) (by kernel_rfl) (by kernel_rfl) (fun _ _ _ h => h) (Or.inr ⟨by rfl, rfl⟩) HS.out ?_)
        (try simp only [Act.put]); (try simp only [List.setIfInBounds_toArray]); (try simp only [List.set_cons_succ]); (try simp only [List.set_cons_zero])
        first | (refine wpAnyH_take (i := 4) (v := ?_) nth4 (by kernel_rfl) (by kernel_rfl) (by kernel_rfl) (fun _ _ _ h => h) (Or.inl ⟨by rfl, ?_⟩) HS.out ?_; rotate_left; focus (intro wS hSw; obtain ⟨c0, c1, c2, c3, f0, f1, f2, f3⟩ := hSw.bx.cells; go_simp; try with_reducible rfl; done)) | (refine wpAnyH_take (i := 4) (v := undef) nth4 (by kernel_rfl) (by kernel_rfl) (by kernel_rfl) (fun _ _ _ h => h) (Or.inr ⟨by rfl, rfl⟩) HS.out ?_)
        (try simp only [Act.put]); (try simp only [List.setIfInBounds_toArray]); (try simp only [List.set_cons_succ]); (try simp only [List.set_cons_zero])
        first | (refine wpAnyH_take (i := 5) (v := ?_) nth5 (by kernel_rfl) (by kernel_rfl) (by kernel_rfl) (fun _ _ _ h => h) (Or.inl ⟨by rfl, ?_⟩) HS.out ?_; rotate_left; focus (intro wS hSw; obtain ⟨c0, c1, c2, c3, f0, f1, f2, f3⟩ := hSw.bx.cells; go_simp; try with_reducible rfl; done)) | (refine wpAnyH_take (i := 5) (v := undef) nth5 (by kernel_rfl) (by kernel_rfl) (by kernel_rfl) (fun _ _ _ h => h) (Or.inr ⟨by rfl, rfl⟩) HS.out ?_)
        (try simp only [Act.put]); (try simp only [List.setIfInBounds_toArray]); (try simp only [List.set_cons_succ]); (try simp only [List.set_cons_zero])
        first | (refine wpAnyH_take (i := 6) (v := ?_) nth6 (by kernel_rfl) (by kernel_rfl) (by kernel_rfl) (fun _ _ _ h => h) (Or.inl ⟨by rfl, ?_⟩) HS.out ?_; rotate_left; focus (intro wS hSw; obtain ⟨c0, c1, c2, c3, f0, f1, f2, f3⟩ := hSw.bx.cells; go_simp; try with_reducible rfl; done)) | (refine wpAnyH_take (i := 6) (v := undef) nth6 (by kernel_rfl) (by kernel_rfl) (by kernel_rfl) (fun _ _ _ h => h) (Or.inr ⟨by rfl, rfl⟩) HS.out ?_)
        (try simp only [Act.put]); (try simp only [List.setIfInBounds_toArray]); (try simp only [List.set_cons_succ]); (try simp only [List.set_cons_zero])
        first | (refine wpAnyH_take (i := 10) (v := ?_) nth10 (by kernel_rfl) (by kernel_rfl) (by kernel_rfl) (fun _ _ _ h => h) (Or.inl ⟨by rfl, ?_⟩) HS.out ?_; rotate_left; focus (intro wS hSw; obtain ⟨c0, c1, c2, c3, f0, f1, f2, f3⟩ := hSw.bx.cells; go_simp; try with_reducible rfl; done)) | (refine wpAnyH_take (i := 10) (v := undef) nth10 (by kernel_rfl) (by kernel_rfl) (by kernel_rfl) (fun _ _ _ h => h) (Or.inr ⟨by rfl, rfl⟩) HS.out ?_)
        (try simp only [Act.put]); (try simp only [List.setIfInBounds_toArray]); (try simp only [List.set_cons_succ]); (try simp only [List.set_cons_zero])
        first | (refine wpAnyH_take (i := 11) (v := ?_) nth11 (by kernel_rfl) (by kernel_rfl) (by kernel_rfl) (fun _ _ _ h => h) (Or.inl ⟨by rfl, ?_⟩) HS.out ?_; rotate_left; focus (intro wS hSw; obtain ⟨c0, c1, c2, c3, f0, f1, f2, f3⟩ := hSw.bx.cells; go_simp; try with_reducible rfl; done)) | (refine wpAnyH_take (i := 11) (v := undef) nth11 (by kernel_rfl) (by kernel_rfl) (by kernel_rfl) (fun _ _ _ h => h) (Or.inr ⟨by rfl, rfl⟩) HS.out ?_)
        (try simp only [Act.put]); (try simp only [List.setIfInBounds_toArray]); (try simp only [List.set_cons_succ]); (try simp only [List.set_cons_zero])
        first | (refine wpAnyH_take (i := 14) (v := ?_) nth14 (by kernel_rfl) (by kernel_rfl) (by kernel_rfl) (fun _ _ _ h => h) (Or.inl ⟨by rfl, ?_⟩) HS.out ?_; rotate_left; focus (intro wS hSw; obtain ⟨c0, c1, c2, c3, f0, f1, f2, f3⟩ := hSw.bx.cells; go_simp; try with_reducible rfl; done)) | (refine wpAnyH_take (i := 14) (v := undef) nth14 (by kernel_rfl) (by kernel_rfl) (by kernel_rfl) (fun _ _ _ h => h) (Or.inr ⟨by rfl, rfl⟩) HS.out ?_)
        (try simp only [Act.put]); (try simp only [List.setIfInBounds_toArray]); (try simp only [List.set_cons_succ]); (try simp only [List.set_cons_zero])
        first | (refine wpAnyH_take (i := 15) (v := ?_) nth15 (by kernel_rfl) (by kernel_rfl) (by kernel_rfl) (fun _ _ _ h => h) (Or.inl ⟨by rfl, ?_⟩) HS.out ?_; rotate_left; focus (intro wS hSw; obtain ⟨c0, c1, c2, c3, f0, f1, f2, f3⟩ := hSw.bx.cells; go_simp; try with_reducible rfl; done)) | (refine wpAnyH_take (i := 15) (v := undef) nth15 (by kernel_rfl) (by kernel_rfl) (by kernel_rfl) (fun _ _ _ h => h) (Or.inr ⟨by rfl, rfl⟩) HS.out ?_)
        (try simp only [Act.put]); (try simp only [List.setIfInBounds_toArray]); (try simp only [List.set_cons_succ]); (try simp only [List.set_cons_zero])
        first | (refine wpAnyH_take (i := 16) (v := ?_) nth16 (by kernel_rfl) (by kernel_rfl) (by kernel_rfl) (fun _ _ _ h => h) (Or.inl ⟨by rfl, ?_⟩) HS.out ?_; rotate_left; focus (intro wS hSw; obtain ⟨c0, c1, c2, c3, f0, f1, f2, f3⟩ := hSw.bx.cells; go_simp; try with_reducible rfl; done)) | (refine wpAnyH_take (i := 16) (v := undef) nth16 (by kernel_rfl) (by kernel_rfl) (by kernel_rfl) (fun _ _ _ h => h) (Or.inr ⟨by rfl, rfl⟩) HS.out ?_)
        (try simp only [Act.put]); (try simp only [List.setIfInBounds_toArray]); (try simp only [List.set_cons_succ]); (try simp only [List.set_cons_zero])
        first | (refine wpAnyH_take (i := 19) (v := ?_) nth19 (by kernel_rfl) (by kernel_rfl) (by kernel_rfl) (fun _ _ _ h => h) (Or.inl ⟨by rfl, ?_⟩) HS.out ?_; rotate_left; focus (intro wS hSw; obtain ⟨c0, c1, c2, c3, f0, f1, f2, f3⟩ := hSw.bx.cells; go_simp; try with_reducible rfl; done)) | (refine wpAnyH_take (i := 19) (v := undef) nth19 (by kernel_rfl) (by kernel_rfl) (by kernel_rfl) (fun _ _ _ h => h) (Or.inr ⟨by rfl, rfl⟩) HS.out ?_)
        (try simp only [Act.put]); (try simp only [List.setIfInBounds_toArray]); (try simp only [List.set_cons_succ]); (try simp only [List.set_cons_zero])
        refine wpAnyH_ready (rs := [2, 7]) (by kernel_rfl) (by simp) ?_
        refine (AllReadyH.cons nth2 (fun K hK => ?_) (AllReadyH.cons nth7 (fun K hK => ?_) AllReadyH.nil))
        · go_simp
          refine (P6.out _).mono ?_
          rintro e wc1 ⟨rfl, hb⟩
          replace HS := hide (HS.out.kept hb)
          clear hb
          refine hK.out _ _ HS.out (fun _ => ?_)
          clear hK K
          (try simp only [Act.put]); (try simp only [List.setIfInBounds_toArray]); (try simp only [List.set_cons_succ]); (try simp only [List.set_cons_zero])
          first | (refine wpAnyH_take (i := 3) (v := ?_) nth3 (by kernel_rfl) (by kernel_rfl) (by kernel_rfl) (fun _ _ _ h => h) (Or.inl ⟨by rfl, ?_⟩) HS.out ?_; rotate_left; focus (intro wS hSw; obtain ⟨c0, c1, c2, c3, f0, f1, f2, f3⟩ := hSw.bx.cells; go_simp; try with_reducible rfl; done)) | (refine wpAnyH_take (i := 3) (v := undef) nth3 (by kernel_rfl) (by kernel_rfl) (by kernel_rfl) (fun _ _ _ h => h) (Or.inr ⟨by rfl, rfl⟩) HS.out ?_)
          (try simp only [Act.put]); (try simp only [List.setIfInBounds_toArray]); (try simp only [List.set_cons_succ]); (try simp only [List.set_cons_zero])
          refine wpAnyH_ready (rs := [7, 12]) (by kernel_rfl) (by simp) ?_
          refine (AllReadyH.cons nth7 (fun K hK => ?_) (AllReadyH.cons nth12 (fun K hK => ?_) AllReadyH.nil))
          · go_simp
            refine hK.out _ _ (HS.out.kept (Bel.one wc1 (.cells #[.int .u8 y, .int .u8 0] 5))) (fun _ => ?_)
            clear hK K
            (try simp only [Act.put]); (try simp only [List.setIfInBounds_toArray]); (try simp only [List.set_cons_succ]); (try simp only [List.set_cons_zero])
            replace HS := hide (HS.out.kept (Bel.one wc1 (.cells #[.int .u8 y, .int .u8 0] 5)))
            have HP7 := hide (two_new wc1 y)
            generalize wc1.alloc (.cells #[.int .u8 y, .int .u8 0] 5) = wc2 at *
            generalize wc1.heap.size = g7 at *
            refine wpAnyH_ready (rs := [8, 12]) (by kernel_rfl) (by simp) ?_
            refine (AllReadyH.cons nth8 (fun K hK => ?_) (AllReadyH.cons nth12 (fun K hK => ?_) AllReadyH.nil))
            · have hcv := HCV.out _ _ HP7.out
              go_simp
              refine hK.out _ _ HS.out (fun _ => ?_)
              clear hK K hcv
              (try simp only [Act.put]); (try simp only [List.setIfInBounds_toArray]); (try simp only [List.set_cons_succ]); (try simp only [List.set_cons_zero])
              first | (refine wpAnyH_take (i := 9) (v := ?_) nth9 (by kernel_rfl) (by kernel_rfl) (by kernel_rfl) (fun _ _ _ h => h) (Or.inl ⟨by rfl, ?_⟩) HS.out ?_; rotate_left; focus (intro wS hSw; obtain ⟨c0, c1, c2, c3, f0, f1, f2, f3⟩ := hSw.bx.cells; go_simp; try with_reducible rfl; done)) | (refine wpAnyH_take (i := 9) (v := undef) nth9 (by kernel_rfl) (by kernel_rfl) (by kernel_rfl) (fun _ _ _ h => h) (Or.inr ⟨by rfl, rfl⟩) HS.out ?_)
              (try simp only [Act.put]); (try simp only [List.setIfInBounds_toArray]); (try simp only [List.set_cons_succ]); (try simp only [List.set_cons_zero])
              refine wpAnyH_ready (rs := [12]) (by kernel_rfl) (by simp) ?_
              refine (AllReadyH.cons nth12 (fun K hK => ?_) AllReadyH.nil)
              · go_simp
                refine (P3.out _).mono ?_
                rintro e wc3 ⟨rfl, hb⟩
                replace HS := hide (HS.out.kept hb)
                clear hb
                refine hK.out _ _ HS.out (fun _ => ?_)
                clear hK K
                (try simp only [Act.put]); (try simp only [List.setIfInBounds_toArray]); (try simp only [List.set_cons_succ]); (try simp only [List.set_cons_zero])
                first | (refine wpAnyH_take (i := 13) (v := ?_) nth13 (by kernel_rfl) (by kernel_rfl) (by kernel_rfl) (fun _ _ _ h => h) (Or.inl ⟨by rfl, ?_⟩) HS.out ?_; rotate_left; focus (intro wS hSw; obtain ⟨c0, c1, c2, c3, f0, f1, f2, f3⟩ := hSw.bx.cells; go_simp; try with_reducible rfl; done)) | (refine wpAnyH_take (i := 13) (v := undef) nth13 (by kernel_rfl) (by kernel_rfl) (by kernel_rfl) (fun _ _ _ h => h) (Or.inr ⟨by rfl, rfl⟩) HS.out ?_)
                (try simp only [Act.put]); (try simp only [List.setIfInBounds_toArray]); (try simp only [List.set_cons_succ]); (try simp only [List.set_cons_zero])
                refine wpAnyH_ready (rs := [17]) (by kernel_rfl) (by simp) ?_
                refine (AllReadyH.cons nth17 (fun K hK => ?_) AllReadyH.nil)
                · go_simp
                  refine (P2n.out _).mono ?_
                  rintro e wc4 ⟨rfl, hb⟩
                  replace HS := hide (HS.out.kept hb)
                  clear hb
                  refine hK.out _ _ HS.out (fun _ => ?_)
                  clear hK K
                  (try simp only [Act.put]); (try simp only [List.setIfInBounds_toArray]); (try simp only [List.set_cons_succ]); (try simp only [List.set_cons_zero])
                  first | (refine wpAnyH_take (i := 18) (v := ?_) nth18 (by kernel_rfl) (by kernel_rfl) (by kernel_rfl) (fun _ _ _ h => h) (Or.inl ⟨by rfl, ?_⟩) HS.out ?_; rotate_left; focus (intro wS hSw; obtain ⟨c0, c1, c2, c3, f0, f1, f2, f3⟩ := hSw.bx.cells; go_simp; try with_reducible rfl; done)) | (refine wpAnyH_take (i := 18) (v := undef) nth18 (by kernel_rfl) (by kernel_rfl) (by kernel_rfl) (fun _ _ _ h => h) (Or.inr ⟨by rfl, rfl⟩) HS.out ?_)
                  (try simp only [Act.put]); (try simp only [List.setIfInBounds_toArray]); (try simp only [List.set_cons_succ]); (try simp only [List.set_cons_zero])
                  refine wpAnyH_ready (rs := [20]) (by kernel_rfl) (by simp) ?_
                  refine (AllReadyH.cons nth20 (fun K hK => ?_) AllReadyH.nil)
                  · go_simp
                    refine (P2b.out _).mono ?_
                    rintro e wc5 ⟨rfl, hb⟩
                    replace HS := hide (HS.out.kept hb)
                    clear hb
                    refine hK.out _ _ HS.out (fun _ => ?_)
                    clear hK K
                    (try simp only [Act.put]); (try simp only [List.setIfInBounds_toArray]); (try simp only [List.set_cons_succ]); (try simp only [List.set_cons_zero])
                    first | (refine wpAnyH_take (i := 21) (v := ?_) nth21 (by kernel_rfl) (by kernel_rfl) (by kernel_rfl) (fun _ _ _ h => h) (Or.inl ⟨by rfl, ?_⟩) HS.out ?_; rotate_left; focus (intro wS hSw; obtain ⟨c0, c1, c2, c3, f0, f1, f2, f3⟩ := hSw.bx.cells; go_simp; try with_reducible rfl; done)) | (refine wpAnyH_take (i := 21) (v := undef) nth21 (by kernel_rfl) (by kernel_rfl) (by kernel_rfl) (fun _ _ _ h => h) (Or.inr ⟨by rfl, rfl⟩) HS.out ?_)
                    (try simp only [Act.put]); (try simp only [List.setIfInBounds_toArray]); (try simp only [List.set_cons_succ]); (try simp only [List.set_cons_zero])
                    first | (refine wpAnyH_take (i := 22) (v := ?_) nth22 (by kernel_rfl) (by kernel_rfl) (by kernel_rfl) (fun _ _ _ h => h) (Or.inl ⟨by rfl, ?_⟩) HS.out ?_; rotate_left; focus (intro wS hSw; obtain ⟨c0, c1, c2, c3, f0, f1, f2, f3⟩ := hSw.bx.cells; go_simp; try with_reducible rfl; done)) | (refine wpAnyH_take (i := 22) (v := undef) nth22 (by kernel_rfl) (by kernel_rfl) (by kernel_rfl) (fun _ _ _ h => h) (Or.inr ⟨by rfl, rfl⟩) HS.out ?_)
                    (try simp only [Act.put]); (try simp only [List.setIfInBounds_toArray]); (try simp only [List.set_cons_succ]); (try simp only [List.set_cons_zero])
                    refine wpAnyH_done (by kernel_rfl) ?_ _
                    go_wp2_with fail
                    go_meet
                    case rel => exact ⟨rfl, HS.out⟩
            · go_simp
              refine (P3.out _).mono ?_
              rintro e wc6 ⟨rfl, hb⟩
              replace HS := hide (HS.out.kept hb)
              replace HP7 := hide (HP7.out.kept hb)
              clear hb
              refine hK.out _ _ HS.out (fun _ => ?_)
              clear hK K
              (try simp only [Act.put]); (try simp only [List.setIfInBounds_toArray]); (try simp only [List.set_cons_succ]); (try simp only [List.set_cons_zero])
              refine wpAnyH_ready (rs := [8, 17]) (by kernel_rfl) (by simp) ?_
              refine (AllReadyH.cons nth8 (fun K hK => ?_) (AllReadyH.cons nth17 (fun K hK => ?_) AllReadyH.nil))
              · have hcv := HCV.out _ _ HP7.out
                go_simp
                refine hK.out _ _ HS.out (fun _ => ?_)
                clear hK K hcv
                (try simp only [Act.put]); (try simp only [List.setIfInBounds_toArray]); (try simp only [List.set_cons_succ]); (try simp only [List.set_cons_zero])
                first | (refine wpAnyH_take (i := 9) (v := ?_) nth9 (by kernel_rfl) (by kernel_rfl) (by kernel_rfl) (fun _ _ _ h => h) (Or.inl ⟨by rfl, ?_⟩) HS.out ?_; rotate_left; focus (intro wS hSw; obtain ⟨c0, c1, c2, c3, f0, f1, f2, f3⟩ := hSw.bx.cells; go_simp; try with_reducible rfl; done)) | (refine wpAnyH_take (i := 9) (v := undef) nth9 (by kernel_rfl) (by kernel_rfl) (by kernel_rfl) (fun _ _ _ h => h) (Or.inr ⟨by rfl, rfl⟩) HS.out ?_)
                (try simp only [Act.put]); (try simp only [List.setIfInBounds_toArray]); (try simp only [List.set_cons_succ]); (try simp only [List.set_cons_zero])
                first | (refine wpAnyH_take (i := 13) (v := ?_) nth13 (by kernel_rfl) (by kernel_rfl) (by kernel_rfl) (fun _ _ _ h => h) (Or.inl ⟨by rfl, ?_⟩) HS.out ?_; rotate_left; focus (intro wS hSw; obtain ⟨c0, c1, c2, c3, f0, f1, f2, f3⟩ := hSw.bx.cells; go_simp; try with_reducible rfl; done)) | (refine wpAnyH_take (i := 13) (v := undef) nth13 (by kernel_rfl) (by kernel_rfl) (by kernel_rfl) (fun _ _ _ h => h) (Or.inr ⟨by rfl, rfl⟩) HS.out ?_)
                (try simp only [Act.put]); (try simp only [List.setIfInBounds_toArray]); (try simp only [List.set_cons_succ]); (try simp only [List.set_cons_zero])
                refine wpAnyH_ready (rs := [17]) (by kernel_rfl) (by simp) ?_
                refine (AllReadyH.cons nth17 (fun K hK => ?_) AllReadyH.nil)
                · go_simp
                  refine (P2n.out _).mono ?_
                  rintro e wc7 ⟨rfl, hb⟩
                  replace HS := hide (HS.out.kept hb)
                  clear hb
                  refine hK.out _ _ HS.out (fun _ => ?_)
                  clear hK K
                  (try simp only [Act.put]); (try simp only [List.setIfInBounds_toArray]); (try simp only [List.set_cons_succ]); (try simp only [List.set_cons_zero])
                  first | (refine wpAnyH_take (i := 18) (v := ?_) nth18 (by kernel_rfl) (by kernel_rfl) (by kernel_rfl) (fun _ _ _ h => h) (Or.inl ⟨by rfl, ?_⟩) HS.out ?_; rotate_left; focus (intro wS hSw; obtain ⟨c0, c1, c2, c3, f0, f1, f2, f3⟩ := hSw.bx.cells; go_simp; try with_reducible rfl; done)) | (refine wpAnyH_take (i := 18) (v := undef) nth18 (by kernel_rfl) (by kernel_rfl) (by kernel_rfl) (fun _ _ _ h => h) (Or.inr ⟨by rfl, rfl⟩) HS.out ?_)
                  (try simp only [Act.put]); (try simp only [List.setIfInBounds_toArray]); (try simp only [List.set_cons_succ]); (try simp only [List.set_cons_zero])
                  refine wpAnyH_ready (rs := [20]) (by kernel_rfl) (by simp) ?_
                  refine (AllReadyH.cons nth20 (fun K hK => ?_) AllReadyH.nil)
                  · go_simp
                    refine (P2b.out _).mono ?_
                    rintro e wc8 ⟨rfl, hb⟩
                    replace HS := hide (HS.out.kept hb)
                    clear hb
                    refine hK.out _ _ HS.out (fun _ => ?_)
                    clear hK K
                    (try simp only [Act.put]); (try simp only [List.setIfInBounds_toArray]); (try simp only [List.set_cons_succ]); (try simp only [List.set_cons_zero])
                    first | (refine wpAnyH_take (i := 21) (v := ?_) nth21 (by kernel_rfl) (by kernel_rfl) (by kernel_rfl) (fun _ _ _ h => h) (Or.inl ⟨by rfl, ?_⟩) HS.out ?_; rotate_left; focus (intro wS hSw; obtain ⟨c0, c1, c2, c3, f0, f1, f2, f3⟩ := hSw.bx.cells; go_simp; try with_reducible rfl; done)) | (refine wpAnyH_take (i := 21) (v := undef) nth21 (by kernel_rfl) (by kernel_rfl) (by kernel_rfl) (fun _ _ _ h => h) (Or.inr ⟨by rfl, rfl⟩) HS.out ?_)
                    (try simp only [Act.put]); (try simp only [List.setIfInBounds_toArray]); (try simp only [List.set_cons_succ]); (try simp only [List.set_cons_zero])
                    first | (refine wpAnyH_take (i := 22) (v := ?_) nth22 (by kernel_rfl) (by kernel_rfl) (by kernel_rfl) (fun _ _ _ h => h) (Or.inl ⟨by rfl, ?_⟩) HS.out ?_; rotate_left; focus (intro wS hSw; obtain ⟨c0, c1, c2, c3, f0, f1, f2, f3⟩ := hSw.bx.cells; go_simp; try with_reducible rfl; done)) | (refine wpAnyH_take (i := 22) (v := undef) nth22 (by kernel_rfl) (by kernel_rfl) (by kernel_rfl) (fun _ _ _ h => h) (Or.inr ⟨by rfl, rfl⟩) HS.out ?_)
                    (try simp only [Act.put]); (try simp only [List.setIfInBounds_toArray]); (try simp only [List.set_cons_succ]); (try simp only [List.set_cons_zero])
                    refine wpAnyH_done (by kernel_rfl) ?_ _
                    go_wp2_with fail
                    go_meet
                    case rel => exact ⟨rfl, HS.out⟩
              · go_simp
                refine (P2n.out _).mono ?_
                rintro e wc9 ⟨rfl, hb⟩
                replace HS := hide (HS.out.kept hb)
                replace HP7 := hide (HP7.out.kept hb)
                clear hb
                refine hK.out _ _ HS.out (fun _ => ?_)
                clear hK K
                (try simp only [Act.put]); (try simp only [List.setIfInBounds_toArray]); (try simp only [List.set_cons_succ]); (try simp only [List.set_cons_zero])
                refine wpAnyH_ready (rs := [8, 20]) (by kernel_rfl) (by simp) ?_
                refine (AllReadyH.cons nth8 (fun K hK => ?_) (AllReadyH.cons nth20 (fun K hK => ?_) AllReadyH.nil))
                · have hcv := HCV.out _ _ HP7.out
                  go_simp
                  refine hK.out _ _ HS.out (fun _ => ?_)
                  clear hK K hcv
                  (try simp only [Act.put]); (try simp only [List.setIfInBounds_toArray]); (try simp only [List.set_cons_succ]); (try simp only [List.set_cons_zero])
                  first | (refine wpAnyH_take (i := 9) (v := ?_) nth9 (by kernel_rfl) (by kernel_rfl) (by kernel_rfl) (fun _ _ _ h => h) (Or.inl ⟨by rfl, ?_⟩) HS.out ?_; rotate_left; focus (intro wS hSw; obtain ⟨c0, c1, c2, c3, f0, f1, f2, f3⟩ := hSw.bx.cells; go_simp; try with_reducible rfl; done)) | (refine wpAnyH_take (i := 9) (v := undef) nth9 (by kernel_rfl) (by kernel_rfl) (by kernel_rfl) (fun _ _ _ h => h) (Or.inr ⟨by rfl, rfl⟩) HS.out ?_)
                  (try simp only [Act.put]); (try simp only [List.setIfInBounds_toArray]); (try simp only [List.set_cons_succ]); (try simp only [List.set_cons_zero])
                  first | (refine wpAnyH_take (i := 13) (v := ?_) nth13 (by kernel_rfl) (by kernel_rfl) (by kernel_rfl) (fun _ _ _ h => h) (Or.inl ⟨by rfl, ?_⟩) HS.out ?_; rotate_left; focus (intro wS hSw; obtain ⟨c0, c1, c2, c3, f0, f1, f2, f3⟩ := hSw.bx.cells; go_simp; try with_reducible rfl; done)) | (refine wpAnyH_take (i := 13) (v := undef) nth13 (by kernel_rfl) (by kernel_rfl) (by kernel_rfl) (fun _ _ _ h => h) (Or.inr ⟨by rfl, rfl⟩) HS.out ?_)
                  (try simp only [Act.put]); (try simp only [List.setIfInBounds_toArray]); (try simp only [List.set_cons_succ]); (try simp only [List.set_cons_zero])
                  first | (refine wpAnyH_take (i := 18) (v := ?_) nth18 (by kernel_rfl) (by kernel_rfl) (by kernel_rfl) (fun _ _ _ h => h) (Or.inl ⟨by rfl, ?_⟩) HS.out ?_; rotate_left; focus (intro wS hSw; obtain ⟨c0, c1, c2, c3, f0, f1, f2, f3⟩ := hSw.bx.cells; go_simp; try with_reducible rfl; done)) | (refine wpAnyH_take (i := 18) (v := undef) nth18 (by kernel_rfl) (by kernel_rfl) (by kernel_rfl) (fun _ _ _ h => h) (Or.inr ⟨by rfl, rfl⟩) HS.out ?_)
                  (try simp only [Act.put]); (try simp only [List.setIfInBounds_toArray]); (try simp only [List.set_cons_succ]); (try simp only [List.set_cons_zero])
                  refine wpAnyH_ready (rs := [20]) (by kernel_rfl) (by simp) ?_
                  refine (AllReadyH.cons nth20 (fun K hK => ?_) AllReadyH.nil)
                  · go_simp
                    refine (P2b.out _).mono ?_
                    rintro e wc10 ⟨rfl, hb⟩
                    replace HS := hide (HS.out.kept hb)
                    clear hb
                    refine hK.out _ _ HS.out (fun _ => ?_)
                    clear hK K
                    (try simp only [Act.put]); (try simp only [List.setIfInBounds_toArray]); (try simp only [List.set_cons_succ]); (try simp only [List.set_cons_zero])
                    first | (refine wpAnyH_take (i := 21) (v := ?_) nth21 (by kernel_rfl) (by kernel_rfl) (by kernel_rfl) (fun _ _ _ h => h) (Or.inl ⟨by rfl, ?_⟩) HS.out ?_; rotate_left; focus (intro wS hSw; obtain ⟨c0, c1, c2, c3, f0, f1, f2, f3⟩ := hSw.bx.cells; go_simp; try with_reducible rfl; done)) | (refine wpAnyH_take (i := 21) (v := undef) nth21 (by kernel_rfl) (by kernel_rfl) (by kernel_rfl) (fun _ _ _ h => h) (Or.inr ⟨by rfl, rfl⟩) HS.out ?_)
                    (try simp only [Act.put]); (try simp only [List.setIfInBounds_toArray]); (try simp only [List.set_cons_succ]); (try simp only [List.set_cons_zero])
                    first | (refine wpAnyH_take (i := 22) (v := ?_) nth22 (by kernel_rfl) (by kernel_rfl) (by kernel_rfl) (fun _ _ _ h => h) (Or.inl ⟨by rfl, ?_⟩) HS.out ?_; rotate_left; focus (intro wS hSw; obtain ⟨c0, c1, c2, c3, f0, f1, f2, f3⟩ := hSw.bx.cells; go_simp; try with_reducible rfl; done)) | (refine wpAnyH_take (i := 22) (v := undef) nth22 (by kernel_rfl) (by kernel_rfl) (by kernel_rfl) (fun _ _ _ h => h) (Or.inr ⟨by rfl, rfl⟩) HS.out ?_)
                    (try simp only [Act.put]); (try simp only [List.setIfInBounds_toArray]); (try simp only [List.set_cons_succ]); (try simp only [List.set_cons_zero])
                    refine wpAnyH_done (by kernel_rfl) ?_ _
                    go_wp2_with fail
                    go_meet
                    case rel => exact ⟨rfl, HS.out⟩
                · go_simp
                  refine (P2b.out _).mono ?_
                  rintro e wc11 ⟨rfl, hb⟩
                  replace HS := hide (HS.out.kept hb)
                  replace HP7 := hide (HP7.out.kept hb)
                  clear hb
                  refine hK.out _ _ HS.out (fun _ => ?_)
                  clear hK K
                  (try simp only [Act.put]); (try simp only [List.setIfInBounds_toArray]); (try simp only [List.set_cons_succ]); (try simp only [List.set_cons_zero])
                  refine wpAnyH_ready (rs := [8]) (by kernel_rfl) (by simp) ?_
                  refine (AllReadyH.cons nth8 (fun K hK => ?_) AllReadyH.nil)
                  · have hcv := HCV.out _ _ HP7.out
                    go_simp
                    refine hK.out _ _ HS.out (fun _ => ?_)
                    clear hK K hcv
                    (try simp only [Act.put]); (try simp only [List.setIfInBounds_toArray]); (try simp only [List.set_cons_succ]); (try simp only [List.set_cons_zero])
                    first | (refine wpAnyH_take (i := 9) (v := ?_) nth9 (by kernel_rfl) (by kernel_rfl) (by kernel_rfl) (fun _ _ _ h => h) (Or.inl ⟨by rfl, ?_⟩) HS.out ?_; rotate_left; focus (intro wS hSw; obtain ⟨c0, c1, c2, c3, f0, f1, f2, f3⟩ := hSw.bx.cells; go_simp; try with_reducible rfl; done)) | (refine wpAnyH_take (i := 9) (v := undef) nth9 (by kernel_rfl) (by kernel_rfl) (by kernel_rfl) (fun _ _ _ h => h) (Or.inr ⟨by rfl, rfl⟩) HS.out ?_)
                    (try simp only [Act.put]); (try simp only [List.setIfInBounds_toArray]); (try simp only [List.set_cons_succ]); (try simp only [List.set_cons_zero])
                    first | (refine wpAnyH_take (i := 13) (v := ?_) nth13 (by kernel_rfl) (by kernel_rfl) (by kernel_rfl) (fun _ _ _ h => h) (Or.inl ⟨by rfl, ?_⟩) HS.out ?_; rotate_left; focus (intro wS hSw; obtain ⟨c0, c1, c2, c3, f0, f1, f2, f3⟩ := hSw.bx.cells; go_simp; try with_reducible rfl; done)) | (refine wpAnyH_take (i := 13) (v := undef) nth13 (by kernel_rfl) (by kernel_rfl) (by kernel_rfl) (fun _ _ _ h => h) (Or.inr ⟨by rfl, rfl⟩) HS.out ?_)
                    (try simp only [Act.put]); (try simp only [List.setIfInBounds_toArray]); (try simp only [List.set_cons_succ]); (try simp only [List.set_cons_zero])
                    first | (refine wpAnyH_take (i := 18) (v := ?_) nth18 (by kernel_rfl) (by kernel_rfl) (by kernel_rfl) (fun _ _ _ h => h) (Or.inl ⟨by rfl, ?_⟩) HS.out ?_; rotate_left; focus (intro wS hSw; obtain ⟨c0, c1, c2, c3, f0, f1, f2, f3⟩ := hSw.bx.cells; go_simp; try with_reducible rfl; done)) | (refine wpAnyH_take (i := 18) (v := undef) nth18 (by kernel_rfl) (by kernel_rfl) (by kernel_rfl) (fun _ _ _ h => h) (Or.inr ⟨by rfl, rfl⟩) HS.out ?_)
                    (try simp only [Act.put]); (try simp only [List.setIfInBounds_toArray]); (try simp only [List.set_cons_succ]); (try simp only [List.set_cons_zero])
                    first | (refine wpAnyH_take (i := 21) (v := ?_) nth21 (by kernel_rfl) (by kernel_rfl) (by kernel_rfl) (fun _ _ _ h => h) (Or.inl ⟨by rfl, ?_⟩) HS.out ?_; rotate_left; focus (intro wS hSw; obtain ⟨c0, c1, c2, c3, f0, f1, f2, f3⟩ := hSw.bx.cells; go_simp; try with_reducible rfl; done)) | (refine wpAnyH_take (i := 21) (v := undef) nth21 (by kernel_rfl) (by kernel_rfl) (by kernel_rfl) (fun _ _ _ h => h) (Or.inr ⟨by rfl, rfl⟩) HS.out ?_)
                    (try simp only [Act.put]); (try simp only [List.setIfInBounds_toArray]); (try simp only [List.set_cons_succ]); (try simp only [List.set_cons_zero])
                    first | (refine wpAnyH_take (i := 22) (v := ?_) nth22 (by kernel_rfl) (by kernel_rfl) (by kernel_rfl) (fun _ _ _ h => h) (Or.inl ⟨by rfl, ?_⟩) HS.out ?_; rotate_left; focus (intro wS hSw; obtain ⟨c0, c1, c2, c3, f0, f1, f2, f3⟩ := hSw.bx.cells; go_simp; try with_reducible rfl; done)) | (refine wpAnyH_take (i := 22) (v := undef) nth22 (by kernel_rfl) (by kernel_rfl) (by kernel_rfl) (fun _ _ _ h => h) (Or.inr ⟨by rfl, rfl⟩) HS.out ?_)
                    (try simp only [Act.put]); (try simp only [List.setIfInBounds_toArray]); (try simp only [List.set_cons_succ]); (try simp only [List.set_cons_zero])
                    refine wpAnyH_done (by kernel_rfl) ?_ _
                    go_wp2_with fail
                    go_meet
                    case rel => exact ⟨rfl, HS.out⟩
          · go_simp
            refine (P3.out _).mono ?_
            rintro e wc12 ⟨rfl, hb⟩
            replace HS := hide (HS.out.kept hb)
            clear hb
            refine hK.out _ _ HS.out (fun _ => ?_)
            clear hK K
            (try simp only [Act.put]); (try simp only [List.setIfInBounds_toArray]); (try simp only [List.set_cons_succ]); (try simp only [List.set_cons_zero])
            refine wpAnyH_ready (rs := [7, 17]) (by kernel_rfl) (by simp) ?_
            refine (AllReadyH.cons nth7 (fun K hK => ?_) (AllReadyH.cons nth17 (fun K hK => ?_) AllReadyH.nil))
            · go_simp
              refine hK.out _ _ (HS.out.kept (Bel.one wc12 (.cells #[.int .u8 y, .int .u8 0] 5))) (fun _ => ?_)
              clear hK K
              (try simp only [Act.put]); (try simp only [List.setIfInBounds_toArray]); (try simp only [List.set_cons_succ]); (try simp only [List.set_cons_zero])
              replace HS := hide (HS.out.kept (Bel.one wc12 (.cells #[.int .u8 y, .int .u8 0] 5)))
              have HP7 := hide (two_new wc12 y)
              generalize wc12.alloc (.cells #[.int .u8 y, .int .u8 0] 5) = wc13 at *
              generalize wc12.heap.size = g7 at *
              refine wpAnyH_ready (rs := [8, 17]) (by kernel_rfl) (by simp) ?_
              refine (AllReadyH.cons nth8 (fun K hK => ?_) (AllReadyH.cons nth17 (fun K hK => ?_) AllReadyH.nil))
              · have hcv := HCV.out _ _ HP7.out
                go_simp
                refine hK.out _ _ HS.out (fun _ => ?_)
                clear hK K hcv
                (try simp only [Act.put]); (try simp only [List.setIfInBounds_toArray]); (try simp only [List.set_cons_succ]); (try simp only [List.set_cons_zero])
                first | (refine wpAnyH_take (i := 9) (v := ?_) nth9 (by kernel_rfl) (by kernel_rfl) (by kernel_rfl) (fun _ _ _ h => h) (Or.inl ⟨by rfl, ?_⟩) HS.out ?_; rotate_left; focus (intro wS hSw; obtain ⟨c0, c1, c2, c3, f0, f1, f2, f3⟩ := hSw.bx.cells; go_simp; try with_reducible rfl; done)) | (refine wpAnyH_take (i := 9) (v := undef) nth9 (by kernel_rfl) (by kernel_rfl) (by kernel_rfl) (fun _ _ _ h => h) (Or.inr ⟨by rfl, rfl⟩) HS.out ?_)
                (try simp only [Act.put]); (try simp only [List.setIfInBounds_toArray]); (try simp only [List.set_cons_succ]); (try simp only [List.set_cons_zero])
                first | (refine wpAnyH_take (i := 13) (v := ?_) nth13 (by kernel_rfl) (by kernel_rfl) (by kernel_rfl) (fun _ _ _ h => h) (Or.inl ⟨by rfl, ?_⟩) HS.out ?_; rotate_left; focus (intro wS hSw; obtain ⟨c0, c1, c2, c3, f0, f1, f2, f3⟩ := hSw.bx.cells; go_simp; try with_reducible rfl; done)) | (refine wpAnyH_take (i := 13) (v := undef) nth13 (by kernel_rfl) (by kernel_rfl) (by kernel_rfl) (fun _ _ _ h => h) (Or.inr ⟨by rfl, rfl⟩) HS.out ?_)
                (try simp only [Act.put]); (try simp only [List.setIfInBounds_toArray]); (try simp only [List.set_cons_succ]); (try simp only [List.set_cons_zero])
                refine wpAnyH_ready (rs := [17]) (by kernel_rfl) (by simp) ?_
                refine (AllReadyH.cons nth17 (fun K hK => ?_) AllReadyH.nil)
                · go_simp
                  refine (P2n.out _).mono ?_
                  rintro e wc14 ⟨rfl, hb⟩
                  replace HS := hide (HS.out.kept hb)
                  clear hb
                  refine hK.out _ _ HS.out (fun _ => ?_)
                  clear hK K
                  (try simp only [Act.put]); (try simp only [List.setIfInBounds_toArray]); (try simp only [List.set_cons_succ]); (try simp only [List.set_cons_zero])
                  first | (refine wpAnyH_take (i := 18) (v := ?_) nth18 (by kernel_rfl) (by kernel_rfl) (by kernel_rfl) (fun _ _ _ h => h) (Or.inl ⟨by rfl, ?_⟩) HS.out ?_; rotate_left; focus (intro wS hSw; obtain ⟨c0, c1, c2, c3, f0, f1, f2, f3⟩ := hSw.bx.cells; go_simp; try with_reducible rfl; done)) | (refine wpAnyH_take (i := 18) (v := undef) nth18 (by kernel_rfl) (by kernel_rfl) (by kernel_rfl) (fun _ _ _ h => h) (Or.inr ⟨by rfl, rfl⟩) HS.out ?_)
                  (try simp only [Act.put]); (try simp only [List.setIfInBounds_toArray]); (try simp only [List.set_cons_succ]); (try simp only [List.set_cons_zero])
                  refine wpAnyH_ready (rs := [20]) (by kernel_rfl) (by simp) ?_
                  refine (AllReadyH.cons nth20 (fun K hK => ?_) AllReadyH.nil)
                  · go_simp
                    refine (P2b.out _).mono ?_
                    rintro e wc15 ⟨rfl, hb⟩
                    replace HS := hide (HS.out.kept hb)
                    clear hb
                    refine hK.out _ _ HS.out (fun _ => ?_)
                    clear hK K
                    (try simp only [Act.put]); (try simp only [List.setIfInBounds_toArray]); (try simp only [List.set_cons_succ]); (try simp only [List.set_cons_zero])
                    first | (refine wpAnyH_take (i := 21) (v := ?_) nth21 (by kernel_rfl) (by kernel_rfl) (by kernel_rfl) (fun _ _ _ h => h) (Or.inl ⟨by rfl, ?_⟩) HS.out ?_; rotate_left; focus (intro wS hSw; obtain ⟨c0, c1, c2, c3, f0, f1, f2, f3⟩ := hSw.bx.cells; go_simp; try with_reducible rfl; done)) | (refine wpAnyH_take (i := 21) (v := undef) nth21 (by kernel_rfl) (by kernel_rfl) (by kernel_rfl) (fun _ _ _ h => h) (Or.inr ⟨by rfl, rfl⟩) HS.out ?_)
                    (try simp only [Act.put]); (try simp only [List.setIfInBounds_toArray]); (try simp only [List.set_cons_succ]); (try simp only [List.set_cons_zero])
                    first | (refine wpAnyH_take (i := 22) (v := ?_) nth22 (by kernel_rfl) (by kernel_rfl) (by kernel_rfl) (fun _ _ _ h => h) (Or.inl ⟨by rfl, ?_⟩) HS.out ?_; rotate_left; focus (intro wS hSw; obtain ⟨c0, c1, c2, c3, f0, f1, f2, f3⟩ := hSw.bx.cells; go_simp; try with_reducible rfl; done)) | (refine wpAnyH_take (i := 22) (v := undef) nth22 (by kernel_rfl) (by kernel_rfl) (by kernel_rfl) (fun _ _ _ h => h) (Or.inr ⟨by rfl, rfl⟩) HS.out ?_)
                    (try simp only [Act.put]); (try simp only [List.setIfInBounds_toArray]); (try simp only [List.set_cons_succ]); (try simp only [List.set_cons_zero])
                    refine wpAnyH_done (by kernel_rfl) ?_ _
                    go_wp2_with fail
                    go_meet
                    case rel => exact ⟨rfl, HS.out⟩
              · go_simp
                refine (P2n.out _).mono ?_
                rintro e wc16 ⟨rfl, hb⟩
                replace HS := hide (HS.out.kept hb)
                replace HP7 := hide (HP7.out.kept hb)
                clear hb
                refine hK.out _ _ HS.out (fun _ => ?_)
                clear hK K
                (try simp only [Act.put]); (try simp only [List.setIfInBounds_toArray]); (try simp only [List.set_cons_succ]); (try simp only [List.set_cons_zero])
                refine wpAnyH_ready (rs := [8, 20]) (by kernel_rfl) (by simp) ?_
                refine (AllReadyH.cons nth8 (fun K hK => ?_) (AllReadyH.cons nth20 (fun K hK => ?_) AllReadyH.nil))
                · have hcv := HCV.out _ _ HP7.out
                  go_simp
                  refine hK.out _ _ HS.out (fun _ => ?_)
                  clear hK K hcv
                  (try simp only [Act.put]); (try simp only [List.setIfInBounds_toArray]); (try simp only [List.set_cons_succ]); (try simp only [List.set_cons_zero])
                  first | (refine wpAnyH_take (i := 9) (v := ?_) nth9 (by kernel_rfl) (by kernel_rfl) (by kernel_rfl) (fun _ _ _ h => h) (Or.inl ⟨by rfl, ?_⟩) HS.out ?_; rotate_left; focus (intro wS hSw; obtain ⟨c0, c1, c2, c3, f0, f1, f2, f3⟩ := hSw.bx.cells; go_simp; try with_reducible rfl; done)) | (refine wpAnyH_take (i := 9) (v := undef) nth9 (by kernel_rfl) (by kernel_rfl) (by kernel_rfl) (fun _ _ _ h => h) (Or.inr ⟨by rfl, rfl⟩) HS.out ?_)
                  (try simp only [Act.put]); (try simp only [List.setIfInBounds_toArray]); (try simp only [List.set_cons_succ]); (try simp only [List.set_cons_zero])
                  first | (refine wpAnyH_take (i := 13) (v := ?_) nth13 (by kernel_rfl) (by kernel_rfl) (by kernel_rfl) (fun _ _ _ h => h) (Or.inl ⟨by rfl, ?_⟩) HS.out ?_; rotate_left; focus (intro wS hSw; obtain ⟨c0, c1, c2, c3, f0, f1, f2, f3⟩ := hSw.bx.cells; go_simp; try with_reducible rfl; done)) | (refine wpAnyH_take (i := 13) (v := undef) nth13 (by kernel_rfl) (by kernel_rfl) (by kernel_rfl) (fun _ _ _ h => h) (Or.inr ⟨by rfl, rfl⟩) HS.out ?_)
                  (try simp only [Act.put]); (try simp only [List.setIfInBounds_toArray]); (try simp only [List.set_cons_succ]); (try simp only [List.set_cons_zero])
                  first | (refine wpAnyH_take (i := 18) (v := ?_) nth18 (by kernel_rfl) (by kernel_rfl) (by kernel_rfl) (fun _ _ _ h => h) (Or.inl ⟨by rfl, ?_⟩) HS.out ?_; rotate_left; focus (intro wS hSw; obtain ⟨c0, c1, c2, c3, f0, f1, f2, f3⟩ := hSw.bx.cells; go_simp; try with_reducible rfl; done)) | (refine wpAnyH_take (i := 18) (v := undef) nth18 (by kernel_rfl) (by kernel_rfl) (by kernel_rfl) (fun _ _ _ h => h) (Or.inr ⟨by rfl, rfl⟩) HS.out ?_)
                  (try simp only [Act.put]); (try simp only [List.setIfInBounds_toArray]); (try simp only [List.set_cons_succ]); (try simp only [List.set_cons_zero])
                  refine wpAnyH_ready (rs := [20]) (by kernel_rfl) (by simp) ?_
                  refine (AllReadyH.cons nth20 (fun K hK => ?_) AllReadyH.nil)
                  · go_simp
                    refine (P2b.out _).mono ?_
                    rintro e wc17 ⟨rfl, hb⟩
                    replace HS := hide (HS.out.kept hb)
                    clear hb
                    refine hK.out _ _ HS.out (fun _ => ?_)
                    clear hK K
                    (try simp only [Act.put]); (try simp only [List.setIfInBounds_toArray]); (try simp only [List.set_cons_succ]); (try simp only [List.set_cons_zero])
                    first | (refine wpAnyH_take (i := 21) (v := ?_) nth21 (by kernel_rfl) (by kernel_rfl) (by kernel_rfl) (fun _ _ _ h => h) (Or.inl ⟨by rfl, ?_⟩) HS.out ?_; rotate_left; focus (intro wS hSw; obtain ⟨c0, c1, c2, c3, f0, f1, f2, f3⟩ := hSw.bx.cells; go_simp; try with_reducible rfl; done)) | (refine wpAnyH_take (i := 21) (v := undef) nth21 (by kernel_rfl) (by kernel_rfl) (by kernel_rfl) (fun _ _ _ h => h) (Or.inr ⟨by rfl, rfl⟩) HS.out ?_)
                    (try simp only [Act.put]); (try simp only [List.setIfInBounds_toArray]); (try simp only [List.set_cons_succ]); (try simp only [List.set_cons_zero])
                    first | (refine wpAnyH_take (i := 22) (v := ?_) nth22 (by kernel_rfl) (by kernel_rfl) (by kernel_rfl) (fun _ _ _ h => h) (Or.inl ⟨by rfl, ?_⟩) HS.out ?_; rotate_left; focus (intro wS hSw; obtain ⟨c0, c1, c2, c3, f0, f1, f2, f3⟩ := hSw.bx.cells; go_simp; try with_reducible rfl; done)) | (refine wpAnyH_take (i := 22) (v := undef) nth22 (by kernel_rfl) (by kernel_rfl) (by kernel_rfl) (fun _ _ _ h => h) (Or.inr ⟨by rfl, rfl⟩) HS.out ?_)
                    (try simp only [Act.put]); (try simp only [List.setIfInBounds_toArray]); (try simp only [List.set_cons_succ]); (try simp only [List.set_cons_zero])
                    refine wpAnyH_done (by kernel_rfl) ?_ _
                    go_wp2_with fail
                    go_meet
                    case rel => exact ⟨rfl, HS.out⟩
                · go_simp
                  refine (P2b.out _).mono ?_
                  rintro e wc18 ⟨rfl, hb⟩
                  replace HS := hide (HS.out.kept hb)
                  replace HP7 := hide (HP7.out.kept hb)
                  clear hb
                  refine hK.out _ _ HS.out (fun _ => ?_)
                  clear hK K
                  (try simp only [Act.put]); (try simp only [List.setIfInBounds_toArray]); (try simp only [List.set_cons_succ]); (try simp only [List.set_cons_zero])
                  refine wpAnyH_ready (rs := [8]) (by kernel_rfl) (by simp) ?_
                  refine (AllReadyH.cons nth8 (fun K hK => ?_) AllReadyH.nil)
                  · have hcv := HCV.out _ _ HP7.out
                    go_simp
                    refine hK.out _ _ HS.out (fun _ => ?_)
                    clear hK K hcv
                    (try simp only [Act.put]); (try simp only [List.setIfInBounds_toArray]); (try simp only [List.set_cons_succ]); (try simp only [List.set_cons_zero])
                    first | (refine wpAnyH_take (i := 9) (v := ?_) nth9 (by kernel_rfl) (by kernel_rfl) (by kernel_rfl) (fun _ _ _ h => h) (Or.inl ⟨by rfl, ?_⟩) HS.out ?_; rotate_left; focus (intro wS hSw; obtain ⟨c0, c1, c2, c3, f0, f1, f2, f3⟩ := hSw.bx.cells; go_simp; try with_reducible rfl; done)) | (refine wpAnyH_take (i := 9) (v := undef) nth9 (by kernel_rfl) (by kernel_rfl) (by kernel_rfl) (fun _ _ _ h => h) (Or.inr ⟨by rfl, rfl⟩) HS.out ?_)
                    (try simp only [Act.put]); (try simp only [List.setIfInBounds_toArray]); (try simp only [List.set_cons_succ]); (try simp only [List.set_cons_zero])
                    first | (refine wpAnyH_take (i := 13) (v := ?_) nth13 (by kernel_rfl) (by kernel_rfl) (by kernel_rfl) (fun _ _ _ h => h) (Or.inl ⟨by rfl, ?_⟩) HS.out ?_; rotate_left; focus (intro wS hSw; obtain ⟨c0, c1, c2, c3, f0, f1, f2, f3⟩ := hSw.bx.cells; go_simp; try with_reducible rfl; done)) | (refine wpAnyH_take (i := 13) (v := undef) nth13 (by kernel_rfl) (by kernel_rfl) (by kernel_rfl) (fun _ _ _ h => h) (Or.inr ⟨by rfl, rfl⟩) HS.out ?_)
                    (try simp only [Act.put]); (try simp only [List.setIfInBounds_toArray]); (try simp only [List.set_cons_succ]); (try simp only [List.set_cons_zero])
                    first | (refine wpAnyH_take (i := 18) (v := ?_) nth18 (by kernel_rfl) (by kernel_rfl) (by kernel_rfl) (fun _ _ _ h => h) (Or.inl ⟨by rfl, ?_⟩) HS.out ?_; rotate_left; focus (intro wS hSw; obtain ⟨c0, c1, c2, c3, f0, f1, f2, f3⟩ := hSw.bx.cells; go_simp; try with_reducible rfl; done)) | (refine wpAnyH_take (i := 18) (v := undef) nth18 (by kernel_rfl) (by kernel_rfl) (by kernel_rfl) (fun _ _ _ h => h) (Or.inr ⟨by rfl, rfl⟩) HS.out ?_)
                    (try simp only [Act.put]); (try simp only [List.setIfInBounds_toArray]); (try simp only [List.set_cons_succ]); (try simp only [List.set_cons_zero])
                    first | (refine wpAnyH_take (i := 21) (v := ?_) nth21 (by kernel_rfl) (by kernel_rfl) (by kernel_rfl) (fun _ _ _ h => h) (Or.inl ⟨by rfl, ?_⟩) HS.out ?_; rotate_left; focus (intro wS hSw; obtain ⟨c0, c1, c2, c3, f0, f1, f2, f3⟩ := hSw.bx.cells; go_simp; try with_reducible rfl; done)) | (refine wpAnyH_take (i := 21) (v := undef) nth21 (by kernel_rfl) (by kernel_rfl) (by kernel_rfl) (fun _ _ _ h => h) (Or.inr ⟨by rfl, rfl⟩) HS.out ?_)
                    (try simp only [Act.put]); (try simp only [List.setIfInBounds_toArray]); (try simp only [List.set_cons_succ]); (try simp only [List.set_cons_zero])
                    first | (refine wpAnyH_take (i := 22) (v := ?_) nth22 (by kernel_rfl) (by kernel_rfl) (by kernel_rfl) (fun _ _ _ h => h) (Or.inl ⟨by rfl, ?_⟩) HS.out ?_; rotate_left; focus (intro wS hSw; obtain ⟨c0, c1, c2, c3, f0, f1, f2, f3⟩ := hSw.bx.cells; go_simp; try with_reducible rfl; done)) | (refine wpAnyH_take (i := 22) (v := undef) nth22 (by kernel_rfl) (by kernel_rfl) (by kernel_rfl) (fun _ _ _ h => h) (Or.inr ⟨by rfl, rfl⟩) HS.out ?_)
                    (try simp only [Act.put]); (try simp only [List.setIfInBounds_toArray]); (try simp only [List.set_cons_succ]); (try simp only [List.set_cons_zero])
                    refine wpAnyH_done (by kernel_rfl) ?_ _
                    go_wp2_with fail
                    go_meet
                    case rel => exact ⟨rfl, HS.out⟩
            · go_simp
              refine (P2n.out _).mono ?_
              rintro e wc19 ⟨rfl, hb⟩
              replace HS := hide (HS.out.kept hb)
              clear hb
              refine hK.out _ _ HS.out (fun _ => ?_)
              clear hK K
              (try simp only [Act.put]); (try simp only [List.setIfInBounds_toArray]); (try simp only [List.set_cons_succ]); (try simp only [List.set_cons_zero])
              refine wpAnyH_ready (rs := [7, 20]) (by kernel_rfl) (by simp) ?_
              refine (AllReadyH.cons nth7 (fun K hK => ?_) (AllReadyH.cons nth20 (fun K hK => ?_) AllReadyH.nil))
              · go_simp
                refine hK.out _ _ (HS.out.kept (Bel.one wc19 (.cells #[.int .u8 y, .int .u8 0] 5))) (fun _ => ?_)
                clear hK K
                (try simp only [Act.put]); (try simp only [List.setIfInBounds_toArray]); (try simp only [List.set_cons_succ]); (try simp only [List.set_cons_zero])
                replace HS := hide (HS.out.kept (Bel.one wc19 (.cells #[.int .u8 y, .int .u8 0] 5)))
                have HP7 := hide (two_new wc19 y)
                generalize wc19.alloc (.cells #[.int .u8 y, .int .u8 0] 5) = wc20 at *
                generalize wc19.heap.size = g7 at *
                refine wpAnyH_ready (rs := [8, 20]) (by kernel_rfl) (by simp) ?_
                refine (AllReadyH.cons nth8 (fun K hK => ?_) (AllReadyH.cons nth20 (fun K hK => ?_) AllReadyH.nil))
                · have hcv := HCV.out _ _ HP7.out
                  go_simp
                  refine hK.out _ _ HS.out (fun _ => ?_)
                  clear hK K hcv
                  (try simp only [Act.put]); (try simp only [List.setIfInBounds_toArray]); (try simp only [List.set_cons_succ]); (try simp only [List.set_cons_zero])
                  first | (refine wpAnyH_take (i := 9) (v := ?_) nth9 (by kernel_rfl) (by kernel_rfl) (by kernel_rfl) (fun _ _ _ h => h) (Or.inl ⟨by rfl, ?_⟩) HS.out ?_; rotate_left; focus (intro wS hSw; obtain ⟨c0, c1, c2, c3, f0, f1, f2, f3⟩ := hSw.bx.cells; go_simp; try with_reducible rfl; done)) | (refine wpAnyH_take (i := 9) (v := undef) nth9 (by kernel_rfl) (by kernel_rfl) (by kernel_rfl) (fun _ _ _ h => h) (Or.inr ⟨by rfl, rfl⟩) HS.out ?_)
                  (try simp only [Act.put]); (try simp only [List.setIfInBounds_toArray]); (try simp only [List.set_cons_succ]); (try simp only [List.set_cons_zero])
                  first | (refine wpAnyH_take (i := 13) (v := ?_) nth13 (by kernel_rfl) (by kernel_rfl) (by kernel_rfl) (fun _ _ _ h => h) (Or.inl ⟨by rfl, ?_⟩) HS.out ?_; rotate_left; focus (intro wS hSw; obtain ⟨c0, c1, c2, c3, f0, f1, f2, f3⟩ := hSw.bx.cells; go_simp; try with_reducible rfl; done)) | (refine wpAnyH_take (i := 13) (v := undef) nth13 (by kernel_rfl) (by kernel_rfl) (by kernel_rfl) (fun _ _ _ h => h) (Or.inr ⟨by rfl, rfl⟩) HS.out ?_)
                  (try simp only [Act.put]); (try simp only [List.setIfInBounds_toArray]); (try simp only [List.set_cons_succ]); (try simp only [List.set_cons_zero])
                  first | (refine wpAnyH_take (i := 18) (v := ?_) nth18 (by kernel_rfl) (by kernel_rfl) (by kernel_rfl) (fun _ _ _ h => h) (Or.inl ⟨by rfl, ?_⟩) HS.out ?_; rotate_left; focus (intro wS hSw; obtain ⟨c0, c1, c2, c3, f0, f1, f2, f3⟩ := hSw.bx.cells; go_simp; try with_reducible rfl; done)) | (refine wpAnyH_take (i := 18) (v := undef) nth18 (by kernel_rfl) (by kernel_rfl) (by kernel_rfl) (fun _ _ _ h => h) (Or.inr ⟨by rfl, rfl⟩) HS.out ?_)
                  (try simp only [Act.put]); (try simp only [List.setIfInBounds_toArray]); (try simp only [List.set_cons_succ]); (try simp only [List.set_cons_zero])
                  refine wpAnyH_ready (rs := [20]) (by kernel_rfl) (by simp) ?_
                  refine (AllReadyH.cons nth20 (fun K hK => ?_) AllReadyH.nil)
                  · go_simp
                    refine (P2b.out _).mono ?_
                    rintro e wc21 ⟨rfl, hb⟩
                    replace HS := hide (HS.out.kept hb)
                    clear hb
                    refine hK.out _ _ HS.out (fun _ => ?_)
                    clear hK K
                    (try simp only [Act.put]); (try simp only [List.setIfInBounds_toArray]); (try simp only [List.set_cons_succ]); (try simp only [List.set_cons_zero])
                    first | (refine wpAnyH_take (i := 21) (v := ?_) nth21 (by kernel_rfl) (by kernel_rfl) (by kernel_rfl) (fun _ _ _ h => h) (Or.inl ⟨by rfl, ?_⟩) HS.out ?_; rotate_left; focus (intro wS hSw; obtain ⟨c0, c1, c2, c3, f0, f1, f2, f3⟩ := hSw.bx.cells; go_simp; try with_reducible rfl; done)) | (refine wpAnyH_take (i := 21) (v := undef) nth21 (by kernel_rfl) (by kernel_rfl) (by kernel_rfl) (fun _ _ _ h => h) (Or.inr ⟨by rfl, rfl⟩) HS.out ?_)
                    (try simp only [Act.put]); (try simp only [List.setIfInBounds_toArray]); (try simp only [List.set_cons_succ]); (try simp only [List.set_cons_zero])
                    first | (refine wpAnyH_take (i := 22) (v := ?_) nth22 (by kernel_rfl) (by kernel_rfl) (by kernel_rfl) (fun _ _ _ h => h) (Or.inl ⟨by rfl, ?_⟩) HS.out ?_; rotate_left; focus (intro wS hSw; obtain ⟨c0, c1, c2, c3, f0, f1, f2, f3⟩ := hSw.bx.cells; go_simp; try with_reducible rfl; done)) | (refine wpAnyH_take (i := 22) (v := undef) nth22 (by kernel_rfl) (by kernel_rfl) (by kernel_rfl) (fun _ _ _ h => h) (Or.inr ⟨by rfl, rfl⟩) HS.out ?_)
                    (try simp only [Act.put]); (try simp only [List.setIfInBounds_toArray]); (try simp only [List.set_cons_succ]); (try simp only [List.set_cons_zero])
                    refine wpAnyH_done (by kernel_rfl) ?_ _
                    go_wp2_with fail
                    go_meet
                    case rel => exact ⟨rfl, HS.out⟩
                · go_simp
                  refine (P2b.out _).mono ?_
                  rintro e wc22 ⟨rfl, hb⟩
                  replace HS := hide (HS.out.kept hb)
                  replace HP7 := hide (HP7.out.kept hb)
                  clear hb
                  refine hK.out _ _ HS.out (fun _ => ?_)
                  clear hK K
                  (try simp only [Act.put]); (try simp only [List.setIfInBounds_toArray]); (try simp only [List.set_cons_succ]); (try simp only [List.set_cons_zero])
                  refine wpAnyH_ready (rs := [8]) (by kernel_rfl) (by simp) ?_
                  refine (AllReadyH.cons nth8 (fun K hK => ?_) AllReadyH.nil)
                  · have hcv := HCV.out _ _ HP7.out
                    go_simp
                    refine hK.out _ _ HS.out (fun _ => ?_)
                    clear hK K hcv
                    (try simp only [Act.put]); (try simp only [List.setIfInBounds_toArray]); (try simp only [List.set_cons_succ]); (try simp only [List.set_cons_zero])
                    first | (refine wpAnyH_take (i := 9) (v := ?_) nth9 (by kernel_rfl) (by kernel_rfl) (by kernel_rfl) (fun _ _ _ h => h) (Or.inl ⟨by rfl, ?_⟩) HS.out ?_; rotate_left; focus (intro wS hSw; obtain ⟨c0, c1, c2, c3, f0, f1, f2, f3⟩ := hSw.bx.cells; go_simp; try with_reducible rfl; done)) | (refine wpAnyH_take (i := 9) (v := undef) nth9 (by kernel_rfl) (by kernel_rfl) (by kernel_rfl) (fun _ _ _ h => h) (Or.inr ⟨by rfl, rfl⟩) HS.out ?_)
                    (try simp only [Act.put]); (try simp only [List.setIfInBounds_toArray]); (try simp only [List.set_cons_succ]); (try simp only [List.set_cons_zero])
                    first | (refine wpAnyH_take (i := 13) (v := ?_) nth13 (by kernel_rfl) (by kernel_rfl) (by kernel_rfl) (fun _ _ _ h => h) (Or.inl ⟨by rfl, ?_⟩) HS.out ?_; rotate_left; focus (intro wS hSw; obtain ⟨c0, c1, c2, c3, f0, f1, f2, f3⟩ := hSw.bx.cells; go_simp; try with_reducible rfl; done)) | (refine wpAnyH_take (i := 13) (v := undef) nth13 (by kernel_rfl) (by kernel_rfl) (by kernel_rfl) (fun _ _ _ h => h) (Or.inr ⟨by rfl, rfl⟩) HS.out ?_)
                    (try simp only [Act.put]); (try simp only [List.setIfInBounds_toArray]); (try simp only [List.set_cons_succ]); (try simp only [List.set_cons_zero])
                    first | (refine wpAnyH_take (i := 18) (v := ?_) nth18 (by kernel_rfl) (by kernel_rfl) (by kernel_rfl) (fun _ _ _ h => h) (Or.inl ⟨by rfl, ?_⟩) HS.out ?_; rotate_left; focus (intro wS hSw; obtain ⟨c0, c1, c2, c3, f0, f1, f2, f3⟩ := hSw.bx.cells; go_simp; try with_reducible rfl; done)) | (refine wpAnyH_take (i := 18) (v := undef) nth18 (by kernel_rfl) (by kernel_rfl) (by kernel_rfl) (fun _ _ _ h => h) (Or.inr ⟨by rfl, rfl⟩) HS.out ?_)
                    (try simp only [Act.put]); (try simp only [List.setIfInBounds_toArray]); (try simp only [List.set_cons_succ]); (try simp only [List.set_cons_zero])
                    first | (refine wpAnyH_take (i := 21) (v := ?_) nth21 (by kernel_rfl) (by kernel_rfl) (by kernel_rfl) (fun _ _ _ h => h) (Or.inl ⟨by rfl, ?_⟩) HS.out ?_; rotate_left; focus (intro wS hSw; obtain ⟨c0, c1, c2, c3, f0, f1, f2, f3⟩ := hSw.bx.cells; go_simp; try with_reducible rfl; done)) | (refine wpAnyH_take (i := 21) (v := undef) nth21 (by kernel_rfl) (by kernel_rfl) (by kernel_rfl) (fun _ _ _ h => h) (Or.inr ⟨by rfl, rfl⟩) HS.out ?_)
                    (try simp only [Act.put]); (try simp only [List.setIfInBounds_toArray]); (try simp only [List.set_cons_succ]); (try simp only [List.set_cons_zero])
                    first | (refine wpAnyH_take (i := 22) (v := ?_) nth22 (by kernel_rfl) (by kernel_rfl) (by kernel_rfl) (fun _ _ _ h => h) (Or.inl ⟨by rfl, ?_⟩) HS.out ?_; rotate_left; focus (intro wS hSw; obtain ⟨c0, c1, c2, c3, f0, f1, f2, f3⟩ := hSw.bx.cells; go_simp; try with_reducible rfl; done)) | (refine wpAnyH_take (i := 22) (v := undef) nth22 (by kernel_rfl) (by kernel_rfl) (by kernel_rfl) (fun _ _ _ h => h) (Or.inr ⟨by rfl, rfl⟩) HS.out ?_)
                    (try simp only [Act.put]); (try simp only [List.setIfInBounds_toArray]); (try simp only [List.set_cons_succ]); (try simp only [List.set_cons_zero])
                    refine wpAnyH_done (by kernel_rfl) ?_ _
                    go_wp2_with fail
                    go_meet
                    case rel => exact ⟨rfl, HS.out⟩
              · go_simp
                refine (P2b.out _).mono ?_
                rintro e wc23 ⟨rfl, hb⟩
                replace HS := hide (HS.out.kept hb)
                clear hb
                refine hK.out _ _ HS.out (fun _ => ?_)
                clear hK K
                (try simp only [Act.put]); (try simp only [List.setIfInBounds_toArray]); (try simp only [List.set_cons_succ]); (try simp only [List.set_cons_zero])
                refine wpAnyH_ready (rs := [7]) (by kernel_rfl) (by simp) ?_
                refine (AllReadyH.cons nth7 (fun K hK => ?_) AllReadyH.nil)
                · go_simp
                  refine hK.out _ _ (HS.out.kept (Bel.one wc23 (.cells #[.int .u8 y, .int .u8 0] 5))) (fun _ => ?_)
                  clear hK K
                  (try simp only [Act.put]); (try simp only [List.setIfInBounds_toArray]); (try simp only [List.set_cons_succ]); (try simp only [List.set_cons_zero])
                  replace HS := hide (HS.out.kept (Bel.one wc23 (.cells #[.int .u8 y, .int .u8 0] 5)))
                  have HP7 := hide (two_new wc23 y)
                  generalize wc23.alloc (.cells #[.int .u8 y, .int .u8 0] 5) = wc24 at *
                  generalize wc23.heap.size = g7 at *
                  refine wpAnyH_ready (rs := [8]) (by kernel_rfl) (by simp) ?_
                  refine (AllReadyH.cons nth8 (fun K hK => ?_) AllReadyH.nil)
                  · have hcv := HCV.out _ _ HP7.out
                    go_simp
                    refine hK.out _ _ HS.out (fun _ => ?_)
                    clear hK K hcv
                    (try simp only [Act.put]); (try simp only [List.setIfInBounds_toArray]); (try simp only [List.set_cons_succ]); (try simp only [List.set_cons_zero])
                    first | (refine wpAnyH_take (i := 9) (v := ?_) nth9 (by kernel_rfl) (by kernel_rfl) (by kernel_rfl) (fun _ _ _ h => h) (Or.inl ⟨by rfl, ?_⟩) HS.out ?_; rotate_left; focus (intro wS hSw; obtain ⟨c0, c1, c2, c3, f0, f1, f2, f3⟩ := hSw.bx.cells; go_simp; try with_reducible rfl; done)) | (refine wpAnyH_take (i := 9) (v := undef) nth9 (by kernel_rfl) (by kernel_rfl) (by kernel_rfl) (fun _ _ _ h => h) (Or.inr ⟨by rfl, rfl⟩) HS.out ?_)
                    (try simp only [Act.put]); (try simp only [List.setIfInBounds_toArray]); (try simp only [List.set_cons_succ]); (try simp only [List.set_cons_zero])
                    first | (refine wpAnyH_take (i := 13) (v := ?_) nth13 (by kernel_rfl) (by kernel_rfl) (by kernel_rfl) (fun _ _ _ h => h) (Or.inl ⟨by rfl, ?_⟩) HS.out ?_; rotate_left; focus (intro wS hSw; obtain ⟨c0, c1, c2, c3, f0, f1, f2, f3⟩ := hSw.bx.cells; go_simp; try with_reducible rfl; done)) | (refine wpAnyH_take (i := 13) (v := undef) nth13 (by kernel_rfl) (by kernel_rfl) (by kernel_rfl) (fun _ _ _ h => h) (Or.inr ⟨by rfl, rfl⟩) HS.out ?_)
                    (try simp only [Act.put]); (try simp only [List.setIfInBounds_toArray]); (try simp only [List.set_cons_succ]); (try simp only [List.set_cons_zero])
                    first | (refine wpAnyH_take (i := 18) (v := ?_) nth18 (by kernel_rfl) (by kernel_rfl) (by kernel_rfl) (fun _ _ _ h => h) (Or.inl ⟨by rfl, ?_⟩) HS.out ?_; rotate_left; focus (intro wS hSw; obtain ⟨c0, c1, c2, c3, f0, f1, f2, f3⟩ := hSw.bx.cells; go_simp; try with_reducible rfl; done)) | (refine wpAnyH_take (i := 18) (v := undef) nth18 (by kernel_rfl) (by kernel_rfl) (by kernel_rfl) (fun _ _ _ h => h) (Or.inr ⟨by rfl, rfl⟩) HS.out ?_)
                    (try simp only [Act.put]); (try simp only [List.setIfInBounds_toArray]); (try simp only [List.set_cons_succ]); (try simp only [List.set_cons_zero])
                    first | (refine wpAnyH_take (i := 21) (v := ?_) nth21 (by kernel_rfl) (by kernel_rfl) (by kernel_rfl) (fun _ _ _ h => h) (Or.inl ⟨by rfl, ?_⟩) HS.out ?_; rotate_left; focus (intro wS hSw; obtain ⟨c0, c1, c2, c3, f0, f1, f2, f3⟩ := hSw.bx.cells; go_simp; try with_reducible rfl; done)) | (refine wpAnyH_take (i := 21) (v := undef) nth21 (by kernel_rfl) (by kernel_rfl) (by kernel_rfl) (fun _ _ _ h => h) (Or.inr ⟨by rfl, rfl⟩) HS.out ?_)
                    (try simp only [Act.put]); (try simp only [List.setIfInBounds_toArray]); (try simp only [List.set_cons_succ]); (try simp only [List.set_cons_zero])
                    first | (refine wpAnyH_take (i := 22) (v := ?_) nth22 (by kernel_rfl) (by kernel_rfl) (by kernel_rfl) (fun _ _ _ h => h) (Or.inl ⟨by rfl, ?_⟩) HS.out ?_; rotate_left; focus (intro wS hSw; obtain ⟨c0, c1, c2, c3, f0, f1, f2, f3⟩ := hSw.bx.cells; go_simp; try with_reducible rfl; done)) | (refine wpAnyH_take (i := 22) (v := undef) nth22 (by kernel_rfl) (by kernel_rfl) (by kernel_rfl) (fun _ _ _ h => h) (Or.inr ⟨by rfl, rfl⟩) HS.out ?_)
                    (try simp only [Act.put]); (try simp only [List.setIfInBounds_toArray]); (try simp only [List.set_cons_succ]); (try simp only [List.set_cons_zero])
                    refine wpAnyH_done (by kernel_rfl) ?_ _
                    go_wp2_with fail
                    go_meet
                    case rel => exact ⟨rfl, HS.out⟩
        · go_simp
          refine hK.out _ _ (HS.out.kept (Bel.one wd (.cells #[.int .u8 y, .int .u8 0] 5))) (fun _ => ?_)
          clear hK K
          (try simp only [Act.put]); (try simp only [List.setIfInBounds_toArray]); (try simp only [List.set_cons_succ]); (try simp only [List.set_cons_zero])
          replace HS := hide (HS.out.kept (Bel.one wd (.cells #[.int .u8 y, .int .u8 0] 5)))
          have HP7 := hide (two_new wd y)
          generalize wd.alloc (.cells #[.int .u8 y, .int .u8 0] 5) = wc25 at *
          generalize wd.heap.size = g7 at *
          refine wpAnyH_ready (rs := [2, 8]) (by kernel_rfl) (by simp) ?_
          refine (AllReadyH.cons nth2 (fun K hK => ?_) (AllReadyH.cons nth8 (fun K hK => ?_) AllReadyH.nil))
          · go_simp
            refine (P6.out _).mono ?_
            rintro e wc26 ⟨rfl, hb⟩
            replace HS := hide (HS.out.kept hb)
            replace HP7 := hide (HP7.out.kept hb)
            clear hb
            refine hK.out _ _ HS.out (fun _ => ?_)
            clear hK K
            (try simp only [Act.put]); (try simp only [List.setIfInBounds_toArray]); (try simp only [List.set_cons_succ]); (try simp only [List.set_cons_zero])
            first | (refine wpAnyH_take (i := 3) (v := ?_) nth3 (by kernel_rfl) (by kernel_rfl) (by kernel_rfl) (fun _ _ _ h => h) (Or.inl ⟨by rfl, ?_⟩) HS.out ?_; rotate_left; focus (intro wS hSw; obtain ⟨c0, c1, c2, c3, f0, f1, f2, f3⟩ := hSw.bx.cells; go_simp; try with_reducible rfl; done)) | (refine wpAnyH_take (i := 3) (v := undef) nth3 (by kernel_rfl) (by kernel_rfl) (by kernel_rfl) (fun _ _ _ h => h) (Or.inr ⟨by rfl, rfl⟩) HS.out ?_)
            (try simp only [Act.put]); (try simp only [List.setIfInBounds_toArray]); (try simp only [List.set_cons_succ]); (try simp only [List.set_cons_zero])
            refine wpAnyH_ready (rs := [8, 12]) (by kernel_rfl) (by simp) ?_
            refine (AllReadyH.cons nth8 (fun K hK => ?_) (AllReadyH.cons nth12 (fun K hK => ?_) AllReadyH.nil))
            · have hcv := HCV.out _ _ HP7.out
              go_simp
              refine hK.out _ _ HS.out (fun _ => ?_)
              clear hK K hcv
              (try simp only [Act.put]); (try simp only [List.setIfInBounds_toArray]); (try simp only [List.set_cons_succ]); (try simp only [List.set_cons_zero])
              first | (refine wpAnyH_take (i := 9) (v := ?_) nth9 (by kernel_rfl) (by kernel_rfl) (by kernel_rfl) (fun _ _ _ h => h) (Or.inl ⟨by rfl, ?_⟩) HS.out ?_; rotate_left; focus (intro wS hSw; obtain ⟨c0, c1, c2, c3, f0, f1, f2, f3⟩ := hSw.bx.cells; go_simp; try with_reducible rfl; done)) | (refine wpAnyH_take (i := 9) (v := undef) nth9 (by kernel_rfl) (by kernel_rfl) (by kernel_rfl) (fun _ _ _ h => h) (Or.inr ⟨by rfl, rfl⟩) HS.out ?_)
              (try simp only [Act.put]); (try simp only [List.setIfInBounds_toArray]); (try simp only [List.set_cons_succ]); (try simp only [List.set_cons_zero])
              refine wpAnyH_ready (rs := [12]) (by kernel_rfl) (by simp) ?_
              refine (AllReadyH.cons nth12 (fun K hK => ?_) AllReadyH.nil)
              · go_simp
                refine (P3.out _).mono ?_
                rintro e wc27 ⟨rfl, hb⟩
                replace HS := hide (HS.out.kept hb)
                clear hb
                refine hK.out _ _ HS.out (fun _ => ?_)
                clear hK K
                (try simp only [Act.put]); (try simp only [List.setIfInBounds_toArray]); (try simp only [List.set_cons_succ]); (try simp only [List.set_cons_zero])
                first | (refine wpAnyH_take (i := 13) (v := ?_) nth13 (by kernel_rfl) (by kernel_rfl) (by kernel_rfl) (fun _ _ _ h => h) (Or.inl ⟨by rfl, ?_⟩) HS.out ?_; rotate_left; focus (intro wS hSw; obtain ⟨c0, c1, c2, c3, f0, f1, f2, f3⟩ := hSw.bx.cells; go_simp; try with_reducible rfl; done)) | (refine wpAnyH_take (i := 13) (v := undef) nth13 (by kernel_rfl) (by kernel_rfl) (by kernel_rfl) (fun _ _ _ h => h) (Or.inr ⟨by rfl, rfl⟩) HS.out ?_)
                (try simp only [Act.put]); (try simp only [List.setIfInBounds_toArray]); (try simp only [List.set_cons_succ]); (try simp only [List.set_cons_zero])
                refine wpAnyH_ready (rs := [17]) (by kernel_rfl) (by simp) ?_
                refine (AllReadyH.cons nth17 (fun K hK => ?_) AllReadyH.nil)
                · go_simp
                  refine (P2n.out _).mono ?_
                  rintro e wc28 ⟨rfl, hb⟩
                  replace HS := hide (HS.out.kept hb)
                  clear hb
                  refine hK.out _ _ HS.out (fun _ => ?_)
                  clear hK K
                  (try simp only [Act.put]); (try simp only [List.setIfInBounds_toArray]); (try simp only [List.set_cons_succ]); (try simp only [List.set_cons_zero])
                  first | (refine wpAnyH_take (i := 18) (v := ?_) nth18 (by kernel_rfl) (by kernel_rfl) (by kernel_rfl) (fun _ _ _ h => h) (Or.inl ⟨by rfl, ?_⟩) HS.out ?_; rotate_left; focus (intro wS hSw; obtain ⟨c0, c1, c2, c3, f0, f1, f2, f3⟩ := hSw.bx.cells; go_simp; try with_reducible rfl; done)) | (refine wpAnyH_take (i := 18) (v := undef) nth18 (by kernel_rfl) (by kernel_rfl) (by kernel_rfl) (fun _ _ _ h => h) (Or.inr ⟨by rfl, rfl⟩) HS.out ?_)
                  (try simp only [Act.put]); (try simp only [List.setIfInBounds_toArray]); (try simp only [List.set_cons_succ]); (try simp only [List.set_cons_zero])
                  refine wpAnyH_ready (rs := [20]) (by kernel_rfl) (by simp) ?_
                  refine (AllReadyH.cons nth20 (fun K hK => ?_) AllReadyH.nil)
                  · go_simp
                    refine (P2b.out _).mono ?_
                    rintro e wc29 ⟨rfl, hb⟩
                    replace HS := hide (HS.out.kept hb)
                    clear hb
                    refine hK.out _ _ HS.out (fun _ => ?_)
                    clear hK K
                    (try simp only [Act.put]); (try simp only [List.setIfInBounds_toArray]); (try simp only [List.set_cons_succ]); (try simp only [List.set_cons_zero])
                    first | (refine wpAnyH_take (i := 21) (v := ?_) nth21 (by kernel_rfl) (by kernel_rfl) (by kernel_rfl) (fun _ _ _ h => h) (Or.inl ⟨by rfl, ?_⟩) HS.out ?_; rotate_left; focus (intro wS hSw; obtain ⟨c0, c1, c2, c3, f0, f1, f2, f3⟩ := hSw.bx.cells; go_simp; try with_reducible rfl; done)) | (refine wpAnyH_take (i := 21) (v := undef) nth21 (by kernel_rfl) (by kernel_rfl) (by kernel_rfl) (fun _ _ _ h => h) (Or.inr ⟨by rfl, rfl⟩) HS.out ?_)
                    (try simp only [Act.put]); (try simp only [List.setIfInBounds_toArray]); (try simp only [List.set_cons_succ]); (try simp only [List.set_cons_zero])
                    first | (refine wpAnyH_take (i := 22) (v := ?_) nth22 (by kernel_rfl) (by kernel_rfl) (by kernel_rfl) (fun _ _ _ h => h) (Or.inl ⟨by rfl, ?_⟩) HS.out ?_; rotate_left; focus (intro wS hSw; obtain ⟨c0, c1, c2, c3, f0, f1, f2, f3⟩ := hSw.bx.cells; go_simp; try with_reducible rfl; done)) | (refine wpAnyH_take (i := 22) (v := undef) nth22 (by kernel_rfl) (by kernel_rfl) (by kernel_rfl) (fun _ _ _ h => h) (Or.inr ⟨by rfl, rfl⟩) HS.out ?_)
                    (try simp only [Act.put]); (try simp only [List.setIfInBounds_toArray]); (try simp only [List.set_cons_succ]); (try simp only [List.set_cons_zero])
                    refine wpAnyH_done (by kernel_rfl) ?_ _
                    go_wp2_with fail
                    go_meet
                    case rel => exact ⟨rfl, HS.out⟩
            · go_simp
              refine (P3.out _).mono ?_
              rintro e wc30 ⟨rfl, hb⟩
              replace HS := hide (HS.out.kept hb)
              replace HP7 := hide (HP7.out.kept hb)
              clear hb
              refine hK.out _ _ HS.out (fun _ => ?_)
              clear hK K
              (try simp only [Act.put]); (try simp only [List.setIfInBounds_toArray]); (try simp only [List.set_cons_succ]); (try simp only [List.set_cons_zero])
              refine wpAnyH_ready (rs := [8, 17]) (by kernel_rfl) (by simp) ?_
              refine (AllReadyH.cons nth8 (fun K hK => ?_) (AllReadyH.cons nth17 (fun K hK => ?_) AllReadyH.nil))
              · have hcv := HCV.out _ _ HP7.out
                go_simp
                refine hK.out _ _ HS.out (fun _ => ?_)
                clear hK K hcv
                (try simp only [Act.put]); (try simp only [List.setIfInBounds_toArray]); (try simp only [List.set_cons_succ]); (try simp only [List.set_cons_zero])
                first | (refine wpAnyH_take (i := 9) (v := ?_) nth9 (by kernel_rfl) (by kernel_rfl) (by kernel_rfl) (fun _ _ _ h => h) (Or.inl ⟨by rfl, ?_⟩) HS.out ?_; rotate_left; focus (intro wS hSw; obtain ⟨c0, c1, c2, c3, f0, f1, f2, f3⟩ := hSw.bx.cells; go_simp; try with_reducible rfl; done)) | (refine wpAnyH_take (i := 9) (v := undef) nth9 (by kernel_rfl) (by kernel_rfl) (by kernel_rfl) (fun _ _ _ h => h) (Or.inr ⟨by rfl, rfl⟩) HS.out ?_)
                (try simp only [Act.put]); (try simp only [List.setIfInBounds_toArray]); (try simp only [List.set_cons_succ]); (try simp only [List.set_cons_zero])
                first | (refine wpAnyH_take (i := 13) (v := ?_) nth13 (by kernel_rfl) (by kernel_rfl) (by kernel_rfl) (fun _ _ _ h => h) (Or.inl ⟨by rfl, ?_⟩) HS.out ?_; rotate_left; focus (intro wS hSw; obtain ⟨c0, c1, c2, c3, f0, f1, f2, f3⟩ := hSw.bx.cells; go_simp; try with_reducible rfl; done)) | (refine wpAnyH_take (i := 13) (v := undef) nth13 (by kernel_rfl) (by kernel_rfl) (by kernel_rfl) (fun _ _ _ h => h) (Or.inr ⟨by rfl, rfl⟩) HS.out ?_)
                (try simp only [Act.put]); (try simp only [List.setIfInBounds_toArray]); (try simp only [List.set_cons_succ]); (try simp only [List.set_cons_zero])
                refine wpAnyH_ready (rs := [17]) (by kernel_rfl) (by simp) ?_
                refine (AllReadyH.cons nth17 (fun K hK => ?_) AllReadyH.nil)
                · go_simp
                  refine (P2n.out _).mono ?_
                  rintro e wc31 ⟨rfl, hb⟩
                  replace HS := hide (HS.out.kept hb)
                  clear hb
                  refine hK.out _ _ HS.out (fun _ => ?_)
                  clear hK K
                  (try simp only [Act.put]); (try simp only [List.setIfInBounds_toArray]); (try simp only [List.set_cons_succ]); (try simp only [List.set_cons_zero])
                  first | (refine wpAnyH_take (i := 18) (v := ?_) nth18 (by kernel_rfl) (by kernel_rfl) (by kernel_rfl) (fun _ _ _ h => h) (Or.inl ⟨by rfl, ?_⟩) HS.out ?_; rotate_left; focus (intro wS hSw; obtain ⟨c0, c1, c2, c3, f0, f1, f2, f3⟩ := hSw.bx.cells; go_simp; try with_reducible rfl; done)) | (refine wpAnyH_take (i := 18) (v := undef) nth18 (by kernel_rfl) (by kernel_rfl) (by kernel_rfl) (fun _ _ _ h => h) (Or.inr ⟨by rfl, rfl⟩) HS.out ?_)
                  (try simp only [Act.put]); (try simp only [List.setIfInBounds_toArray]); (try simp only [List.set_cons_succ]); (try simp only [List.set_cons_zero])
                  refine wpAnyH_ready (rs := [20]) (by kernel_rfl) (by simp) ?_
                  refine (AllReadyH.cons nth20 (fun K hK => ?_) AllReadyH.nil)
                  · go_simp
                    refine (P2b.out _).mono ?_
                    rintro e wc32 ⟨rfl, hb⟩
                    replace HS := hide (HS.out.kept hb)
                    clear hb
                    refine hK.out _ _ HS.out (fun _ => ?_)
                    clear hK K
                    (try simp only [Act.put]); (try simp only [List.setIfInBounds_toArray]); (try simp only [List.set_cons_succ]); (try simp only [List.set_cons_zero])
                    first | (refine wpAnyH_take (i := 21) (v := ?_) nth21 (by kernel_rfl) (by kernel_rfl) (by kernel_rfl) (fun _ _ _ h => h) (Or.inl ⟨by rfl, ?_⟩) HS.out ?_; rotate_left; focus (intro wS hSw; obtain ⟨c0, c1, c2, c3, f0, f1, f2, f3⟩ := hSw.bx.cells; go_simp; try with_reducible rfl; done)) | (refine wpAnyH_take (i := 21) (v := undef) nth21 (by kernel_rfl) (by kernel_rfl) (by kernel_rfl) (fun _ _ _ h => h) (Or.inr ⟨by rfl, rfl⟩) HS.out ?_)
                    (try simp only [Act.put]); (try simp only [List.setIfInBounds_toArray]); (try simp only [List.set_cons_succ]); (try simp only [List.set_cons_zero])
                    first | (refine wpAnyH_take (i := 22) (v := ?_) nth22 (by kernel_rfl) (by kernel_rfl) (by kernel_rfl) (fun _ _ _ h => h) (Or.inl ⟨by rfl, ?_⟩) HS.out ?_; rotate_left; focus (intro wS hSw; obtain ⟨c0, c1, c2, c3, f0, f1, f2, f3⟩ := hSw.bx.cells; go_simp; try with_reducible rfl; done)) | (refine wpAnyH_take (i := 22) (v := undef) nth22 (by kernel_rfl) (by kernel_rfl) (by kernel_rfl) (fun _ _ _ h => h) (Or.inr ⟨by rfl, rfl⟩) HS.out ?_)
                    (try simp only [Act.put]); (try simp only [List.setIfInBounds_toArray]); (try simp only [List.set_cons_succ]); (try simp only [List.set_cons_zero])
                    refine wpAnyH_done (by kernel_rfl) ?_ _
                    go_wp2_with fail
                    go_meet
                    case rel => exact ⟨rfl, HS.out⟩
              · go_simp
                refine (P2n.out _).mono ?_
                rintro e wc33 ⟨rfl, hb⟩
                replace HS := hide (HS.out.kept hb)
                replace HP7 := hide (HP7.out.kept hb)
                clear hb
                refine hK.out _ _ HS.out (fun _ => ?_)
                clear hK K
                (try simp only [Act.put]); (try simp only [List.setIfInBounds_toArray]); (try simp only [List.set_cons_succ]); (try simp only [List.set_cons_zero])
                refine wpAnyH_ready (rs := [8, 20]) (by kernel_rfl) (by simp) ?_
                refine (AllReadyH.cons nth8 (fun K hK => ?_) (AllReadyH.cons nth20 (fun K hK => ?_) AllReadyH.nil))
                · have hcv := HCV.out _ _ HP7.out
                  go_simp
                  refine hK.out _ _ HS.out (fun _ => ?_)
                  clear hK K hcv
                  (try simp only [Act.put]); (try simp only [List.setIfInBounds_toArray]); (try simp only [List.set_cons_succ]); (try simp only [List.set_cons_zero])
                  first | (refine wpAnyH_take (i := 9) (v := ?_) nth9 (by kernel_rfl) (by kernel_rfl) (by kernel_rfl) (fun _ _ _ h => h) (Or.inl ⟨by rfl, ?_⟩) HS.out ?_; rotate_left; focus (intro wS hSw; obtain ⟨c0, c1, c2, c3, f0, f1, f2, f3⟩ := hSw.bx.cells; go_simp; try with_reducible rfl; done)) | (refine wpAnyH_take (i := 9) (v := undef) nth9 (by kernel_rfl) (by kernel_rfl) (by kernel_rfl) (fun _ _ _ h => h) (Or.inr ⟨by rfl, rfl⟩) HS.out ?_)
                  (try simp only [Act.put]); (try simp only [List.setIfInBounds_toArray]); (try simp only [List.set_cons_succ]); (try simp only [List.set_cons_zero])
                  first | (refine wpAnyH_take (i := 13) (v := ?_) nth13 (by kernel_rfl) (by kernel_rfl) (by kernel_rfl) (fun _ _ _ h => h) (Or.inl ⟨by rfl, ?_⟩) HS.out ?_; rotate_left; focus (intro wS hSw; obtain ⟨c0, c1, c2, c3, f0, f1, f2, f3⟩ := hSw.bx.cells; go_simp; try with_reducible rfl; done)) | (refine wpAnyH_take (i := 13) (v := undef) nth13 (by kernel_rfl) (by kernel_rfl) (by kernel_rfl) (fun _ _ _ h => h) (Or.inr ⟨by rfl, rfl⟩) HS.out ?_)
                  (try simp only [Act.put]); (try simp only [List.setIfInBounds_toArray]); (try simp only [List.set_cons_succ]); (try simp only [List.set_cons_zero])
                  first | (refine wpAnyH_take (i := 18) (v := ?_) nth18 (by kernel_rfl) (by kernel_rfl) (by kernel_rfl) (fun _ _ _ h => h) (Or.inl ⟨by rfl, ?_⟩) HS.out ?_; rotate_left; focus (intro wS hSw; obtain ⟨c0, c1, c2, c3, f0, f1, f2, f3⟩ := hSw.bx.cells; go_simp; try with_reducible rfl; done)) | (refine wpAnyH_take (i := 18) (v := undef) nth18 (by kernel_rfl) (by kernel_rfl) (by kernel_rfl) (fun _ _ _ h => h) (Or.inr ⟨by rfl, rfl⟩) HS.out ?_)
                  (try simp only [Act.put]); (try simp only [List.setIfInBounds_toArray]); (try simp only [List.set_cons_succ]); (try simp only [List.set_cons_zero])
                  refine wpAnyH_ready (rs := [20]) (by kernel_rfl) (by simp) ?_
                  refine (AllReadyH.cons nth20 (fun K hK => ?_) AllReadyH.nil)
                  · go_simp
                    refine (P2b.out _).mono ?_
                    rintro e wc34 ⟨rfl, hb⟩
                    replace HS := hide (HS.out.kept hb)
                    clear hb
                    refine hK.out _ _ HS.out (fun _ => ?_)
                    clear hK K
                    (try simp only [Act.put]); (try simp only [List.setIfInBounds_toArray]); (try simp only [List.set_cons_succ]); (try simp only [List.set_cons_zero])
                    first | (refine wpAnyH_take (i := 21) (v := ?_) nth21 (by kernel_rfl) (by kernel_rfl) (by kernel_rfl) (fun _ _ _ h => h) (Or.inl ⟨by rfl, ?_⟩) HS.out ?_; rotate_left; focus (intro wS hSw; obtain ⟨c0, c1, c2, c3, f0, f1, f2, f3⟩ := hSw.bx.cells; go_simp; try with_reducible rfl; done)) | (refine wpAnyH_take (i := 21) (v := undef) nth21 (by kernel_rfl) (by kernel_rfl) (by kernel_rfl) (fun _ _ _ h => h) (Or.inr ⟨by rfl, rfl⟩) HS.out ?_)
                    (try simp only [Act.put]); (try simp only [List.setIfInBounds_toArray]); (try simp only [List.set_cons_succ]); (try simp only [List.set_cons_zero])
                    first | (refine wpAnyH_take (i := 22) (v := ?_) nth22 (by kernel_rfl) (by kernel_rfl) (by kernel_rfl) (fun _ _ _ h => h) (Or.inl ⟨by rfl, ?_⟩) HS.out ?_; rotate_left; focus (intro wS hSw; obtain ⟨c0, c1, c2, c3, f0, f1, f2, f3⟩ := hSw.bx.cells; go_simp; try with_reducible rfl; done)) | (refine wpAnyH_take (i := 22) (v := undef) nth22 (by kernel_rfl) (by kernel_rfl) (by kernel_rfl) (fun _ _ _ h => h) (Or.inr ⟨by rfl, rfl⟩) HS.out ?_)
                    (try simp only [Act.put]); (try simp only [List.setIfInBounds_toArray]); (try simp only [List.set_cons_succ]); (try simp only [List.set_cons_zero])
                    refine wpAnyH_done (by kernel_rfl) ?_ _
                    go_wp2_with fail
                    go_meet
                    case rel => exact ⟨rfl, HS.out⟩
                · go_simp
                  refine (P2b.out _).mono ?_
                  rintro e wc35 ⟨rfl, hb⟩
                  replace HS := hide (HS.out.kept hb)
                  replace HP7 := hide (HP7.out.kept hb)
                  clear hb
                  refine hK.out _ _ HS.out (fun _ => ?_)
                  clear hK K
                  (try simp only [Act.put]); (try simp only [List.setIfInBounds_toArray]); (try simp only [List.set_cons_succ]); (try simp only [List.set_cons_zero])
                  refine wpAnyH_ready (rs := [8]) (by kernel_rfl) (by simp) ?_
                  refine (AllReadyH.cons nth8 (fun K hK => ?_) AllReadyH.nil)
                  · have hcv := HCV.out _ _ HP7.out
                    go_simp
                    refine hK.out _ _ HS.out (fun _ => ?_)
                    clear hK K hcv
                    (try simp only [Act.put]); (try simp only [List.setIfInBounds_toArray]); (try simp only [List.set_cons_succ]); (try simp only [List.set_cons_zero])
                    first | (refine wpAnyH_take (i := 9) (v := ?_) nth9 (by kernel_rfl) (by kernel_rfl) (by kernel_rfl) (fun _ _ _ h => h) (Or.inl ⟨by rfl, ?_⟩) HS.out ?_; rotate_left; focus (intro wS hSw; obtain ⟨c0, c1, c2, c3, f0, f1, f2, f3⟩ := hSw.bx.cells; go_simp; try with_reducible rfl; done)) | (refine wpAnyH_take (i := 9) (v := undef) nth9 (by kernel_rfl) (by kernel_rfl) (by kernel_rfl) (fun _ _ _ h => h) (Or.inr ⟨by rfl, rfl⟩) HS.out ?_)
                    (try simp only [Act.put]); (try simp only [List.setIfInBounds_toArray]); (try simp only [List.set_cons_succ]); (try simp only [List.set_cons_zero])
                    first | (refine wpAnyH_take (i := 13) (v := ?_) nth13 (by kernel_rfl) (by kernel_rfl) (by kernel_rfl) (fun _ _ _ h => h) (Or.inl ⟨by rfl, ?_⟩) HS.out ?_; rotate_left; focus (intro wS hSw; obtain ⟨c0, c1, c2, c3, f0, f1, f2, f3⟩ := hSw.bx.cells; go_simp; try with_reducible rfl; done)) | (refine wpAnyH_take (i := 13) (v := undef) nth13 (by kernel_rfl) (by kernel_rfl) (by kernel_rfl) (fun _ _ _ h => h) (Or.inr ⟨by rfl, rfl⟩) HS.out ?_)
                    (try simp only [Act.put]); (try simp only [List.setIfInBounds_toArray]); (try simp only [List.set_cons_succ]); (try simp only [List.set_cons_zero])
                    first | (refine wpAnyH_take (i := 18) (v := ?_) nth18 (by kernel_rfl) (by kernel_rfl) (by kernel_rfl) (fun _ _ _ h => h) (Or.inl ⟨by rfl, ?_⟩) HS.out ?_; rotate_left; focus (intro wS hSw; obtain ⟨c0, c1, c2, c3, f0, f1, f2, f3⟩ := hSw.bx.cells; go_simp; try with_reducible rfl; done)) | (refine wpAnyH_take (i := 18) (v := undef) nth18 (by kernel_rfl) (by kernel_rfl) (by kernel_rfl) (fun _ _ _ h => h) (Or.inr ⟨by rfl, rfl⟩) HS.out ?_)
                    (try simp only [Act.put]); (try simp only [List.setIfInBounds_toArray]); (try simp only [List.set_cons_succ]); (try simp only [List.set_cons_zero])
                    first | (refine wpAnyH_take (i := 21) (v := ?_) nth21 (by kernel_rfl) (by kernel_rfl) (by kernel_rfl) (fun _ _ _ h => h) (Or.inl ⟨by rfl, ?_⟩) HS.out ?_; rotate_left; focus (intro wS hSw; obtain ⟨c0, c1, c2, c3, f0, f1, f2, f3⟩ := hSw.bx.cells; go_simp; try with_reducible rfl; done)) | (refine wpAnyH_take (i := 21) (v := undef) nth21 (by kernel_rfl) (by kernel_rfl) (by kernel_rfl) (fun _ _ _ h => h) (Or.inr ⟨by rfl, rfl⟩) HS.out ?_)
                    (try simp only [Act.put]); (try simp only [List.setIfInBounds_toArray]); (try simp only [List.set_cons_succ]); (try simp only [List.set_cons_zero])
                    first | (refine wpAnyH_take (i := 22) (v := ?_) nth22 (by kernel_rfl) (by kernel_rfl) (by kernel_rfl) (fun _ _ _ h => h) (Or.inl ⟨by rfl, ?_⟩) HS.out ?_; rotate_left; focus (intro wS hSw; obtain ⟨c0, c1, c2, c3, f0, f1, f2, f3⟩ := hSw.bx.cells; go_simp; try with_reducible rfl; done)) | (refine wpAnyH_take (i := 22) (v := undef) nth22 (by kernel_rfl) (by kernel_rfl) (by kernel_rfl) (fun _ _ _ h => h) (Or.inr ⟨by rfl, rfl⟩) HS.out ?_)
                    (try simp only [Act.put]); (try simp only [List.setIfInBounds_toArray]); (try simp only [List.set_cons_succ]); (try simp only [List.set_cons_zero])
                    refine wpAnyH_done (by kernel_rfl) ?_ _
                    go_wp2_with fail
                    go_meet
                    case rel => exact ⟨rfl, HS.out⟩
          · have hcv := HCV.out _ _ HP7.out
            go_simp
            refine hK.out _ _ HS.out (fun _ => ?_)
            clear hK K hcv
            (try simp only [Act.put]); (try simp only [List.setIfInBounds_toArray]); (try simp only [List.set_cons_succ]); (try simp only [List.set_cons_zero])
            refine wpAnyH_ready (rs := [2]) (by kernel_rfl) (by simp) ?_
            refine (AllReadyH.cons nth2 (fun K hK => ?_) AllReadyH.nil)
            · go_simp
              refine (P6.out _).mono ?_
              rintro e wc36 ⟨rfl, hb⟩
              replace HS := hide (HS.out.kept hb)
              clear hb
              refine hK.out _ _ HS.out (fun _ => ?_)
              clear hK K
              (try simp only [Act.put]); (try simp only [List.setIfInBounds_toArray]); (try simp only [List.set_cons_succ]); (try simp only [List.set_cons_zero])
              first | (refine wpAnyH_take (i := 3) (v := ?_) nth3 (by kernel_rfl) (by kernel_rfl) (by kernel_rfl) (fun _ _ _ h => h) (Or.inl ⟨by rfl, ?_⟩) HS.out ?_; rotate_left; focus (intro wS hSw; obtain ⟨c0, c1, c2, c3, f0, f1, f2, f3⟩ := hSw.bx.cells; go_simp; try with_reducible rfl; done)) | (refine wpAnyH_take (i := 3) (v := undef) nth3 (by kernel_rfl) (by kernel_rfl) (by kernel_rfl) (fun _ _ _ h => h) (Or.inr ⟨by rfl, rfl⟩) HS.out ?_)
              (try simp only [Act.put]); (try simp only [List.setIfInBounds_toArray]); (try simp only [List.set_cons_succ]); (try simp only [List.set_cons_zero])
              first | (refine wpAnyH_take (i := 9) (v := ?_) nth9 (by kernel_rfl) (by kernel_rfl) (by kernel_rfl) (fun _ _ _ h => h) (Or.inl ⟨by rfl, ?_⟩) HS.out ?_; rotate_left; focus (intro wS hSw; obtain ⟨c0, c1, c2, c3, f0, f1, f2, f3⟩ := hSw.bx.cells; go_simp; try with_reducible rfl; done)) | (refine wpAnyH_take (i := 9) (v := undef) nth9 (by kernel_rfl) (by kernel_rfl) (by kernel_rfl) (fun _ _ _ h => h) (Or.inr ⟨by rfl, rfl⟩) HS.out ?_)
              (try simp only [Act.put]); (try simp only [List.setIfInBounds_toArray]); (try simp only [List.set_cons_succ]); (try simp only [List.set_cons_zero])
              refine wpAnyH_ready (rs := [12]) (by kernel_rfl) (by simp) ?_
              refine (AllReadyH.cons nth12 (fun K hK => ?_) AllReadyH.nil)
              · go_simp
                refine (P3.out _).mono ?_
                rintro e wc37 ⟨rfl, hb⟩
                replace HS := hide (HS.out.kept hb)
                clear hb
                refine hK.out _ _ HS.out (fun _ => ?_)
                clear hK K
                (try simp only [Act.put]); (try simp only [List.setIfInBounds_toArray]); (try simp only [List.set_cons_succ]); (try simp only [List.set_cons_zero])
                first | (refine wpAnyH_take (i := 13) (v := ?_) nth13 (by kernel_rfl) (by kernel_rfl) (by kernel_rfl) (fun _ _ _ h => h) (Or.inl ⟨by rfl, ?_⟩) HS.out ?_; rotate_left; focus (intro wS hSw; obtain ⟨c0, c1, c2, c3, f0, f1, f2, f3⟩ := hSw.bx.cells; go_simp; try with_reducible rfl; done)) | (refine wpAnyH_take (i := 13) (v := undef) nth13 (by kernel_rfl) (by kernel_rfl) (by kernel_rfl) (fun _ _ _ h => h) (Or.inr ⟨by rfl, rfl⟩) HS.out ?_)
                (try simp only [Act.put]); (try simp only [List.setIfInBounds_toArray]); (try simp only [List.set_cons_succ]); (try simp only [List.set_cons_zero])
                refine wpAnyH_ready (rs := [17]) (by kernel_rfl) (by simp) ?_
                refine (AllReadyH.cons nth17 (fun K hK => ?_) AllReadyH.nil)
                · go_simp
                  refine (P2n.out _).mono ?_
                  rintro e wc38 ⟨rfl, hb⟩
                  replace HS := hide (HS.out.kept hb)
                  clear hb
                  refine hK.out _ _ HS.out (fun _ => ?_)
                  clear hK K
                  (try simp only [Act.put]); (try simp only [List.setIfInBounds_toArray]); (try simp only [List.set_cons_succ]); (try simp only [List.set_cons_zero])
                  first | (refine wpAnyH_take (i := 18) (v := ?_) nth18 (by kernel_rfl) (by kernel_rfl) (by kernel_rfl) (fun _ _ _ h => h) (Or.inl ⟨by rfl, ?_⟩) HS.out ?_; rotate_left; focus (intro wS hSw; obtain ⟨c0, c1, c2, c3, f0, f1, f2, f3⟩ := hSw.bx.cells; go_simp; try with_reducible rfl; done)) | (refine wpAnyH_take (i := 18) (v := undef) nth18 (by kernel_rfl) (by kernel_rfl) (by kernel_rfl) (fun _ _ _ h => h) (Or.inr ⟨by rfl, rfl⟩) HS.out ?_)
                  (try simp only [Act.put]); (try simp only [List.setIfInBounds_toArray]); (try simp only [List.set_cons_succ]); (try simp only [List.set_cons_zero])
                  refine wpAnyH_ready (rs := [20]) (by kernel_rfl) (by simp) ?_
                  refine (AllReadyH.cons nth20 (fun K hK => ?_) AllReadyH.nil)
                  · go_simp
                    refine (P2b.out _).mono ?_
                    rintro e wc39 ⟨rfl, hb⟩
                    replace HS := hide (HS.out.kept hb)
                    clear hb
                    refine hK.out _ _ HS.out (fun _ => ?_)
                    clear hK K
                    (try simp only [Act.put]); (try simp only [List.setIfInBounds_toArray]); (try simp only [List.set_cons_succ]); (try simp only [List.set_cons_zero])
                    first | (refine wpAnyH_take (i := 21) (v := ?_) nth21 (by kernel_rfl) (by kernel_rfl) (by kernel_rfl) (fun _ _ _ h => h) (Or.inl ⟨by rfl, ?_⟩) HS.out ?_; rotate_left; focus (intro wS hSw; obtain ⟨c0, c1, c2, c3, f0, f1, f2, f3⟩ := hSw.bx.cells; go_simp; try with_reducible rfl; done)) | (refine wpAnyH_take (i := 21) (v := undef) nth21 (by kernel_rfl) (by kernel_rfl) (by kernel_rfl) (fun _ _ _ h => h) (Or.inr ⟨by rfl, rfl⟩) HS.out ?_)
                    (try simp only [Act.put]); (try simp only [List.setIfInBounds_toArray]); (try simp only [List.set_cons_succ]); (try simp only [List.set_cons_zero])
                    first | (refine wpAnyH_take (i := 22) (v := ?_) nth22 (by kernel_rfl) (by kernel_rfl) (by kernel_rfl) (fun _ _ _ h => h) (Or.inl ⟨by rfl, ?_⟩) HS.out ?_; rotate_left; focus (intro wS hSw; obtain ⟨c0, c1, c2, c3, f0, f1, f2, f3⟩ := hSw.bx.cells; go_simp; try with_reducible rfl; done)) | (refine wpAnyH_take (i := 22) (v := undef) nth22 (by kernel_rfl) (by kernel_rfl) (by kernel_rfl) (fun _ _ _ h => h) (Or.inr ⟨by rfl, rfl⟩) HS.out ?_)
                    (try simp only [Act.put]); (try simp only [List.setIfInBounds_toArray]); (try simp only [List.set_cons_succ]); (try simp only [List.set_cons_zero])
                    refine wpAnyH_done (by kernel_rfl) ?_ _
                    go_wp2_with fail
                    go_meet
                    case rel => exact ⟨rfl, HS.out⟩
      case rest =>
        clear HS P6 P3 P2n P2b HCV wy wy2
        obtain ⟨rfl, hS⟩ := hcut
        have HS := hide hS
        clear hS
        obtain ⟨A3, c3, hu3⟩ := HS.out.own.form
        subst hu3
        have o1 := O1.out
        have o2 := O2.out
        have o3 := O3.out
        have o4 := HZ2.out
        have hrl : (List.replicate bg (0 : UInt8)).length = bg := List.length_replicate
        have HC1 := hide (fun W (h : BtS w w.heap.size x y z (.slice A k c) gr ⟨bg, sl, rs⟩ (.slice A3 sl.length c3) W) => cv_own h.own)
        have HC2 := hide (fun W (h : BtS w w.heap.size x y z (.slice A k c) gr ⟨bg, sl, rs⟩ (.slice A3 sl.length c3) W) => cv_tail2 h.row (by dsimp only; omega))
        obtain ⟨dz, hdz⟩ : ∃ dz, bg - 19 - 4 * k = dz := ⟨_, rfl⟩
        have hRR := HRR.out
        rw [hdz] at hRR
        have s2 := fun W => zslice dz (by omega) W
        have b1 : (bytesOf sl).size = 4 * k := by rw [bytesOf_size]; exact o2
        have b2 : (bytesOf rs).size = 512 - bg := by rw [bytesOf_size]; omega
        have b3 : (zrs dz).size = dz := zrs_size dz
        have HBSL := hide (show BtS w w.heap.size x y z (.slice A k c) gr ⟨bg, sl, rs⟩ (.slice A3 sl.length c3) wc from HS.out)
        dsimp only at HC1
        generalize bytesOf sl = BS at *
        generalize bytesOf rs = BR at *
        generalize zrs dz = ZZ at *
        have t5 : (⟨#[0, 0, 0, 0]⟩ ++ X6 ++ XK ++ X3 ++ XN ++ XB : ByteArray).size = 19 := by rw [app_size, t4, s2b]
        generalize (⟨#[0, 0, 0, 0]⟩ ++ X6 ++ XK ++ X3 ++ XN ++ XB : ByteArray) = HD at *
        have t6 : (HD ++ BS).size = 19 + 4 * k := by rw [app_size, t5, b1]
        have t7 : (HD ++ BS ++ ZZ).size = bg := by rw [app_size, t6, b3]; omega
        have wz1 : IntKind.i64.wrap ((bg : Int) - 19) = (bg : Int) - 19 := IntWalk.i64_in _ (by omega)
        have wz2 : IntKind.i64.wrap ((bg : Int) - 19 - (sl.length : Int)) = (dz : Int) := by rw [IntWalk.i64_in _ (by omega)]; omega
        have hbi : (bg : Int) ≤ 512 := by omega
        have e1 : ¬ 9223372036854775807 < 19 + 4 * k := by omega
        have e2 : ¬ 9223372036854775807 < 19 + 4 * k + dz := by omega
        have e3 : ¬ 9223372036854775807 < bg + (512 - bg) := by omega
        have e4 : ¬ 9223372036854775807 < 19 + 4 * k + dz + (512 - bg) := by omega
        have HRR2 := hide hRR
        clear hRR HRR hrl o1 o2 o3 o4 hdz
        go_upto_region 15 with (fail)
        refine wp_region_held_drew (S := fun w' => BtS w w.heap.size x y z (.slice A k c) gr ⟨bg, sl, rs⟩ (.slice A3 sl.length c3) w') (by kernel_rfl) (HS.out.kept (Below.refl _ _).drew) (fun hHeld => ?_)
        replace HS := hide (HS.out.kept (Below.refl wc.heap.size wc).drew)
        generalize wc.drew = wd at *
        clear hHeld
        generalize ({ data := (((([0, 0, 0, 0, 0, 0, 0, 0, 0, 0, 0, 0, 0, 0, 0, 0, 0, 0, 0, 0, 0, 0, 0, 0, 0, 0, 0, 0, 0, 0, 0, 0, 0, 0, 0, 0, 0, 0, 0, 0, 0, 0, 0, 0, 0, 0, 0, 0, 0, 0, 0, 0, 0, 0, 0, 0, 0, 0, 0, 0, 0, 0, 0, 0].append [0, 0, 0, 0, 0, 0, 0, 0, 0, 0, 0, 0, 0, 0, 0, 0, 0, 0, 0, 0, 0, 0, 0, 0, 0, 0, 0, 0, 0, 0, 0, 0, 0, 0, 0, 0, 0, 0, 0, 0, 0, 0, 0, 0, 0, 0, 0, 0, 0, 0, 0, 0, 0, 0, 0, 0, 0, 0, 0, 0, 0, 0, 0, 0]).append ([0, 0, 0, 0, 0, 0, 0, 0, 0, 0, 0, 0, 0, 0, 0, 0, 0, 0, 0, 0, 0, 0, 0, 0, 0, 0, 0, 0, 0, 0, 0, 0, 0, 0, 0, 0, 0, 0, 0, 0, 0, 0, 0, 0, 0, 0, 0, 0, 0, 0, 0, 0, 0, 0, 0, 0, 0, 0, 0, 0, 0, 0, 0, 0].append [0, 0, 0, 0, 0, 0, 0, 0, 0, 0, 0, 0, 0, 0, 0, 0, 0, 0, 0, 0, 0, 0, 0, 0, 0, 0, 0, 0, 0, 0, 0, 0, 0, 0, 0, 0, 0, 0, 0, 0, 0, 0, 0, 0, 0, 0, 0, 0, 0, 0, 0, 0, 0, 0, 0, 0, 0, 0, 0, 0, 0, 0, 0, 0])).append (([0, 0, 0, 0, 0, 0, 0, 0, 0, 0, 0, 0, 0, 0, 0, 0, 0, 0, 0, 0, 0, 0, 0, 0, 0, 0, 0, 0, 0, 0, 0, 0, 0, 0, 0, 0, 0, 0, 0, 0, 0, 0, 0, 0, 0, 0, 0, 0, 0, 0, 0, 0, 0, 0, 0, 0, 0, 0, 0, 0, 0, 0, 0, 0].append [0, 0, 0, 0, 0, 0, 0, 0, 0, 0, 0, 0, 0, 0, 0, 0, 0, 0, 0, 0, 0, 0, 0, 0, 0, 0, 0, 0, 0, 0, 0, 0, 0, 0, 0, 0, 0, 0, 0, 0, 0, 0, 0, 0, 0, 0, 0, 0, 0, 0, 0, 0, 0, 0, 0, 0, 0, 0, 0, 0, 0, 0, 0, 0]).append ([0, 0, 0, 0, 0, 0, 0, 0, 0, 0, 0, 0, 0, 0, 0, 0, 0, 0, 0, 0, 0, 0, 0, 0, 0, 0, 0, 0, 0, 0, 0, 0, 0, 0, 0, 0, 0, 0, 0, 0, 0, 0, 0, 0, 0, 0, 0, 0, 0, 0, 0, 0, 0, 0, 0, 0, 0, 0, 0, 0, 0, 0, 0, 0].append [0, 0, 0, 0, 0, 0, 0, 0, 0, 0, 0, 0, 0, 0, 0, 0, 0, 0, 0, 0, 0, 0, 0, 0, 0, 0, 0, 0, 0, 0, 0, 0, 0, 0, 0, 0, 0, 0, 0, 0, 0, 0, 0, 0, 0, 0, 0, 0, 0, 0, 0, 0, 0, 0, 0, 0, 0, 0, 0, 0, 0, 0, 0, 0]))).toArray) } : ByteArray) = zc at s2 ⊢
        first | (refine wpAnyH_take (i := 0) (v := ?_) nth0 (by kernel_rfl) (by kernel_rfl) (by kernel_rfl) (fun _ _ _ h => h) (Or.inl ⟨by rfl, ?_⟩) HS.out ?_; rotate_left; focus (intro wS hSw; (have q1 := HC1.out _ hSw; have q2 := HC2.out _ hSw); go_simp; try with_reducible rfl; done)) | (refine wpAnyH_take (i := 0) (v := undef) nth0 (by kernel_rfl) (by kernel_rfl) (by kernel_rfl) (fun _ _ _ h => h) (Or.inr ⟨by rfl, rfl⟩) HS.out ?_)
        (try simp only [Act.put]); (try simp only [List.setIfInBounds_toArray]); (try simp only [List.set_cons_succ]); (try simp only [List.set_cons_zero])
        first | (refine wpAnyH_take (i := 1) (v := ?_) nth1 (by kernel_rfl) (by kernel_rfl) (by kernel_rfl) (fun _ _ _ h => h) (Or.inl ⟨by rfl, ?_⟩) HS.out ?_; rotate_left; focus (intro wS hSw; (have q1 := HC1.out _ hSw; have q2 := HC2.out _ hSw); go_simp; try with_reducible rfl; done)) | (refine wpAnyH_take (i := 1) (v := undef) nth1 (by kernel_rfl) (by kernel_rfl) (by kernel_rfl) (fun _ _ _ h => h) (Or.inr ⟨by rfl, rfl⟩) HS.out ?_)
        (try simp only [Act.put]); (try simp only [List.setIfInBounds_toArray]); (try simp only [List.set_cons_succ]); (try simp only [List.set_cons_zero])
        first | (refine wpAnyH_take (i := 2) (v := ?_) nth2 (by kernel_rfl) (by kernel_rfl) (by kernel_rfl) (fun _ _ _ h => h) (Or.inl ⟨by rfl, ?_⟩) HS.out ?_; rotate_left; focus (intro wS hSw; (have q1 := HC1.out _ hSw; have q2 := HC2.out _ hSw); go_simp; try with_reducible rfl; done)) | (refine wpAnyH_take (i := 2) (v := undef) nth2 (by kernel_rfl) (by kernel_rfl) (by kernel_rfl) (fun _ _ _ h => h) (Or.inr ⟨by rfl, rfl⟩) HS.out ?_)
        (try simp only [Act.put]); (try simp only [List.setIfInBounds_toArray]); (try simp only [List.set_cons_succ]); (try simp only [List.set_cons_zero])
        first | (refine wpAnyH_take (i := 3) (v := ?_) nth3 (by kernel_rfl) (by kernel_rfl) (by kernel_rfl) (fun _ _ _ h => h) (Or.inl ⟨by rfl, ?_⟩) HS.out ?_; rotate_left; focus (intro wS hSw; (have q1 := HC1.out _ hSw; have q2 := HC2.out _ hSw); go_simp; try with_reducible rfl; done)) | (refine wpAnyH_take (i := 3) (v := undef) nth3 (by kernel_rfl) (by kernel_rfl) (by kernel_rfl) (fun _ _ _ h => h) (Or.inr ⟨by rfl, rfl⟩) HS.out ?_)
        (try simp only [Act.put]); (try simp only [List.setIfInBounds_toArray]); (try simp only [List.set_cons_succ]); (try simp only [List.set_cons_zero])
        first | (refine wpAnyH_take (i := 4) (v := ?_) nth4 (by kernel_rfl) (by kernel_rfl) (by kernel_rfl) (fun _ _ _ h => h) (Or.inl ⟨by rfl, ?_⟩) HS.out ?_; rotate_left; focus (intro wS hSw; (have q1 := HC1.out _ hSw; have q2 := HC2.out _ hSw); go_simp; try with_reducible rfl; done)) | (refine wpAnyH_take (i := 4) (v := undef) nth4 (by kernel_rfl) (by kernel_rfl) (by kernel_rfl) (fun _ _ _ h => h) (Or.inr ⟨by rfl, rfl⟩) HS.out ?_)
        (try simp only [Act.put]); (try simp only [List.setIfInBounds_toArray]); (try simp only [List.set_cons_succ]); (try simp only [List.set_cons_zero])
        first | (refine wpAnyH_take (i := 5) (v := ?_) nth5 (by kernel_rfl) (by kernel_rfl) (by kernel_rfl) (fun _ _ _ h => h) (Or.inl ⟨by rfl, ?_⟩) HS.out ?_; rotate_left; focus (intro wS hSw; (have q1 := HC1.out _ hSw; have q2 := HC2.out _ hSw); go_simp; try with_reducible rfl; done)) | (refine wpAnyH_take (i := 5) (v := undef) nth5 (by kernel_rfl) (by kernel_rfl) (by kernel_rfl) (fun _ _ _ h => h) (Or.inr ⟨by rfl, rfl⟩) HS.out ?_)
        (try simp only [Act.put]); (try simp only [List.setIfInBounds_toArray]); (try simp only [List.set_cons_succ]); (try simp only [List.set_cons_zero])
        first | (refine wpAnyH_take (i := 6) (v := ?_) nth6 (by kernel_rfl) (by kernel_rfl) (by kernel_rfl) (fun _ _ _ h => h) (Or.inl ⟨by rfl, ?_⟩) HS.out ?_; rotate_left; focus (intro wS hSw; (have q1 := HC1.out _ hSw; have q2 := HC2.out _ hSw); go_simp; try with_reducible rfl; done)) | (refine wpAnyH_take (i := 6) (v := undef) nth6 (by kernel_rfl) (by kernel_rfl) (by kernel_rfl) (fun _ _ _ h => h) (Or.inr ⟨by rfl, rfl⟩) HS.out ?_)
        (try simp only [Act.put]); (try simp only [List.setIfInBounds_toArray]); (try simp only [List.set_cons_succ]); (try simp only [List.set_cons_zero])
        first | (refine wpAnyH_take (i := 7) (v := ?_) nth7 (by kernel_rfl) (by kernel_rfl) (by kernel_rfl) (fun _ _ _ h => h) (Or.inl ⟨by rfl, ?_⟩) HS.out ?_; rotate_left; focus (intro wS hSw; (have q1 := HC1.out _ hSw; have q2 := HC2.out _ hSw); go_simp; try with_reducible rfl; done)) | (refine wpAnyH_take (i := 7) (v := undef) nth7 (by kernel_rfl) (by kernel_rfl) (by kernel_rfl) (fun _ _ _ h => h) (Or.inr ⟨by rfl, rfl⟩) HS.out ?_)
        (try simp only [Act.put]); (try simp only [List.setIfInBounds_toArray]); (try simp only [List.set_cons_succ]); (try simp only [List.set_cons_zero])
        first | (refine wpAnyH_take (i := 8) (v := ?_) nth8 (by kernel_rfl) (by kernel_rfl) (by kernel_rfl) (fun _ _ _ h => h) (Or.inl ⟨by rfl, ?_⟩) HS.out ?_; rotate_left; focus (intro wS hSw; (have q1 := HC1.out _ hSw; have q2 := HC2.out _ hSw); go_simp; try with_reducible rfl; done)) | (refine wpAnyH_take (i := 8) (v := undef) nth8 (by kernel_rfl) (by kernel_rfl) (by kernel_rfl) (fun _ _ _ h => h) (Or.inr ⟨by rfl, rfl⟩) HS.out ?_)
        (try simp only [Act.put]); (try simp only [List.setIfInBounds_toArray]); (try simp only [List.set_cons_succ]); (try simp only [List.set_cons_zero])
        first | (refine wpAnyH_take (i := 9) (v := ?_) nth9 (by kernel_rfl) (by kernel_rfl) (by kernel_rfl) (fun _ _ _ h => h) (Or.inl ⟨by rfl, ?_⟩) HS.out ?_; rotate_left; focus (intro wS hSw; (have q1 := HC1.out _ hSw; have q2 := HC2.out _ hSw); go_simp; try with_reducible rfl; done)) | (refine wpAnyH_take (i := 9) (v := undef) nth9 (by kernel_rfl) (by kernel_rfl) (by kernel_rfl) (fun _ _ _ h => h) (Or.inr ⟨by rfl, rfl⟩) HS.out ?_)
        (try simp only [Act.put]); (try simp only [List.setIfInBounds_toArray]); (try simp only [List.set_cons_succ]); (try simp only [List.set_cons_zero])
        first | (refine wpAnyH_take (i := 10) (v := ?_) nth10 (by kernel_rfl) (by kernel_rfl) (by kernel_rfl) (fun _ _ _ h => h) (Or.inl ⟨by rfl, ?_⟩) HS.out ?_; rotate_left; focus (intro wS hSw; (have q1 := HC1.out _ hSw; have q2 := HC2.out _ hSw); go_simp; try with_reducible rfl; done)) | (refine wpAnyH_take (i := 10) (v := undef) nth10 (by kernel_rfl) (by kernel_rfl) (by kernel_rfl) (fun _ _ _ h => h) (Or.inr ⟨by rfl, rfl⟩) HS.out ?_)
        (try simp only [Act.put]); (try simp only [List.setIfInBounds_toArray]); (try simp only [List.set_cons_succ]); (try simp only [List.set_cons_zero])
        first | (refine wpAnyH_take (i := 11) (v := ?_) nth11 (by kernel_rfl) (by kernel_rfl) (by kernel_rfl) (fun _ _ _ h => h) (Or.inl ⟨by rfl, ?_⟩) HS.out ?_; rotate_left; focus (intro wS hSw; (have q1 := HC1.out _ hSw; have q2 := HC2.out _ hSw); go_simp; try with_reducible rfl; done)) | (refine wpAnyH_take (i := 11) (v := undef) nth11 (by kernel_rfl) (by kernel_rfl) (by kernel_rfl) (fun _ _ _ h => h) (Or.inr ⟨by rfl, rfl⟩) HS.out ?_)
        (try simp only [Act.put]); (try simp only [List.setIfInBounds_toArray]); (try simp only [List.set_cons_succ]); (try simp only [List.set_cons_zero])
        first | (refine wpAnyH_take (i := 12) (v := ?_) nth12 (by kernel_rfl) (by kernel_rfl) (by kernel_rfl) (fun _ _ _ h => h) (Or.inl ⟨by rfl, ?_⟩) HS.out ?_; rotate_left; focus (intro wS hSw; (have q1 := HC1.out _ hSw; have q2 := HC2.out _ hSw); go_simp; try with_reducible rfl; done)) | (refine wpAnyH_take (i := 12) (v := undef) nth12 (by kernel_rfl) (by kernel_rfl) (by kernel_rfl) (fun _ _ _ h => h) (Or.inr ⟨by rfl, rfl⟩) HS.out ?_)
        (try simp only [Act.put]); (try simp only [List.setIfInBounds_toArray]); (try simp only [List.set_cons_succ]); (try simp only [List.set_cons_zero])
        first | (refine wpAnyH_take (i := 13) (v := ?_) nth13 (by kernel_rfl) (by kernel_rfl) (by kernel_rfl) (fun _ _ _ h => h) (Or.inl ⟨by rfl, ?_⟩) HS.out ?_; rotate_left; focus (intro wS hSw; (have q1 := HC1.out _ hSw; have q2 := HC2.out _ hSw); go_simp; try with_reducible rfl; done)) | (refine wpAnyH_take (i := 13) (v := undef) nth13 (by kernel_rfl) (by kernel_rfl) (by kernel_rfl) (fun _ _ _ h => h) (Or.inr ⟨by rfl, rfl⟩) HS.out ?_)
        (try simp only [Act.put]); (try simp only [List.setIfInBounds_toArray]); (try simp only [List.set_cons_succ]); (try simp only [List.set_cons_zero])
        first | (refine wpAnyH_take (i := 14) (v := ?_) nth14 (by kernel_rfl) (by kernel_rfl) (by kernel_rfl) (fun _ _ _ h => h) (Or.inl ⟨by rfl, ?_⟩) HS.out ?_; rotate_left; focus (intro wS hSw; (have q1 := HC1.out _ hSw; have q2 := HC2.out _ hSw); go_simp; try with_reducible rfl; done)) | (refine wpAnyH_take (i := 14) (v := undef) nth14 (by kernel_rfl) (by kernel_rfl) (by kernel_rfl) (fun _ _ _ h => h) (Or.inr ⟨by rfl, rfl⟩) HS.out ?_)
        (try simp only [Act.put]); (try simp only [List.setIfInBounds_toArray]); (try simp only [List.set_cons_succ]); (try simp only [List.set_cons_zero])
        first | (refine wpAnyH_take (i := 15) (v := ?_) nth15 (by kernel_rfl) (by kernel_rfl) (by kernel_rfl) (fun _ _ _ h => h) (Or.inl ⟨by rfl, ?_⟩) HS.out ?_; rotate_left; focus (intro wS hSw; (have q1 := HC1.out _ hSw; have q2 := HC2.out _ hSw); go_simp; try with_reducible rfl; done)) | (refine wpAnyH_take (i := 15) (v := undef) nth15 (by kernel_rfl) (by kernel_rfl) (by kernel_rfl) (fun _ _ _ h => h) (Or.inr ⟨by rfl, rfl⟩) HS.out ?_)
        (try simp only [Act.put]); (try simp only [List.setIfInBounds_toArray]); (try simp only [List.set_cons_succ]); (try simp only [List.set_cons_zero])
        first | (refine wpAnyH_take (i := 16) (v := ?_) nth16 (by kernel_rfl) (by kernel_rfl) (by kernel_rfl) (fun _ _ _ h => h) (Or.inl ⟨by rfl, ?_⟩) HS.out ?_; rotate_left; focus (intro wS hSw; (have q1 := HC1.out _ hSw; have q2 := HC2.out _ hSw); go_simp; try with_reducible rfl; done)) | (refine wpAnyH_take (i := 16) (v := undef) nth16 (by kernel_rfl) (by kernel_rfl) (by kernel_rfl) (fun _ _ _ h => h) (Or.inr ⟨by rfl, rfl⟩) HS.out ?_)
        (try simp only [Act.put]); (try simp only [List.setIfInBounds_toArray]); (try simp only [List.set_cons_succ]); (try simp only [List.set_cons_zero])
        first | (refine wpAnyH_take (i := 17) (v := ?_) nth17 (by kernel_rfl) (by kernel_rfl) (by kernel_rfl) (fun _ _ _ h => h) (Or.inl ⟨by rfl, ?_⟩) HS.out ?_; rotate_left; focus (intro wS hSw; (have q1 := HC1.out _ hSw; have q2 := HC2.out _ hSw); go_simp; try with_reducible rfl; done)) | (refine wpAnyH_take (i := 17) (v := undef) nth17 (by kernel_rfl) (by kernel_rfl) (by kernel_rfl) (fun _ _ _ h => h) (Or.inr ⟨by rfl, rfl⟩) HS.out ?_)
        (try simp only [Act.put]); (try simp only [List.setIfInBounds_toArray]); (try simp only [List.set_cons_succ]); (try simp only [List.set_cons_zero])
        first | (refine wpAnyH_take (i := 18) (v := ?_) nth18 (by kernel_rfl) (by kernel_rfl) (by kernel_rfl) (fun _ _ _ h => h) (Or.inl ⟨by rfl, ?_⟩) HS.out ?_; rotate_left; focus (intro wS hSw; (have q1 := HC1.out _ hSw; have q2 := HC2.out _ hSw); go_simp; try with_reducible rfl; done)) | (refine wpAnyH_take (i := 18) (v := undef) nth18 (by kernel_rfl) (by kernel_rfl) (by kernel_rfl) (fun _ _ _ h => h) (Or.inr ⟨by rfl, rfl⟩) HS.out ?_)
        (try simp only [Act.put]); (try simp only [List.setIfInBounds_toArray]); (try simp only [List.set_cons_succ]); (try simp only [List.set_cons_zero])
        refine wpAnyH_done (by kernel_rfl) ?_ _
        go_wp2_with fail
        all_goals
          go_ret
          exact ⟨by rw [HRR2.out]; rfl, HS.out.hb⟩
end Go.Proofs.YtfdedkcidemimaaDoor
