/- Pages: the walk of PageRoom. -/
import Derived.Test.YtfdedkcidemimaaDoorPsD
import Derived.Test.YtfdedkcidemimaaDoorPmL
import Derived.Laws.IdiomStrings
namespace Go.Proofs.YtfdedkcidemimaaDoor
set_option linter.unusedVariables false
set_option linter.unusedSimpArgs false
open Go.ChangeShapes Go.WideShapes Go.ChangeAt Go.RowKit

/-- Block g holds the bytes l, not frozen. -/
def HoldsB (w : World) (g : Nat) (l : List UInt8) : Prop := ∀ j, j < l.length → w.cell? ⟨g, j, none⟩ = some (.int .u8 ((l.getD j 0).toNat : Int)) ∧ w.frozen? ⟨g, j, none⟩ = false
theorem made_bytes (w : World) (s : ByteArray) : ∃ cap W1, (convert 9 40 (.string s)).run Tryd.prog w = .ok (.slice (some ⟨w.heap.size, 0, none⟩) s.size cap) W1 ∧ s.size ≤ cap ∧ Below w.heap.size w W1 ∧ HoldsB W1 w.heap.size s.data.toList ∧ w.heap.size < W1.heap.size := by
  have hr := run_bytes_of_string (P := Tryd.prog) w 9 40 5 s Tryd.underlying9 Tryd.underlying40 Tryd.underlying5
  have hcap : s.size ≤ grownCap w s.size 0 5 := grownCap_ge _ _ _ _
  generalize grownCap w s.size 0 5 = c at *
  refine ⟨_, _, hr, hcap, ?_, ?_, ?_⟩
  · exact (Below.refl _ _).drew.alloc (Nat.le_refl _) _
  · intro j hj
    have hl := str_len s
    refine ⟨?_, ?_⟩
    · refine (cell_of_row (w.drew.alloc _) w.heap.size j _ _ _ (heap_alloc_new w.drew _)).trans ?_
      rw [bytesRow, Array.getElem?_append_left (by rw [Array.size_map]; show j < s.size; omega), Array.getElem?_map]
      have hj2 : j < s.data.size := by show j < s.size; omega
      rw [Array.getElem?_eq_getElem hj2, List.getD_eq_getElem?_getD, List.getElem?_eq_getElem hj]
      simp
    · have := World.frozen?_alloc_mark w.drew (bytesRow s c) 5 (bytesRow s c).size ((bytesRow s c).size + 1) j
      refine this.trans ?_
      have hz : s.size ≤ (bytesRow s c).size := by
        unfold bytesRow
        rw [Array.size_append, Array.size_map]
        exact Nat.le_add_right _ _
      simp
      omega
  · rw [World.size_alloc]
    exact Nat.lt_succ_self _
theorem HoldsB.set {w : World} {g : Nat} {l : List UInt8} (h : HoldsB w g l) {k : Nat} (hk : k < l.length) (x : UInt8) {v : Int} (hv : v = (x.toNat : Int)) : HoldsB (w.setCell ⟨g, k, none⟩ (.int .u8 v)).drew g (l.set k x) := by
  intro j hj
  rw [List.length_set] at hj
  obtain ⟨h1, h2⟩ := h j hj
  refine ⟨?_, by simpa using h2⟩
  show (w.setCell ⟨g, k, none⟩ (.int .u8 v)).cell? ⟨g, j, none⟩ = _
  by_cases e : k = j
  · subst e
    rw [World.cell?_setCell_same w _ _ (h k hk).1, List.getD_eq_getElem?_getD, List.getElem?_set_self hk, hv]
    rfl
  · rw [World.cell?_setCell_other w _ _ _ (fun q => e (by injection q)), h1, List.getD_eq_getElem?_getD, List.getD_eq_getElem?_getD, List.getElem?_set_ne e]
theorem back_c (w : World) (g cap : Nat) (l : List UInt8) (n : Nat) (hn : l.length = n) (h : HoldsB w g l) : (convert 40 9 (.slice (some ⟨g, 0, none⟩) n cap)).run Tryd.prog w = .ok (.string ⟨l.toArray⟩) w := by
  subst hn
  refine run_convert_bytes_back (P := Tryd.prog) w 40 9 5 ⟨g, 0, none⟩ cap l Tryd.underlying40 Tryd.underlying5 Tryd.underlying9 ?_
  intro j hj
  have := (h j hj).1
  rw [List.getD_eq_getElem?_getD, List.getElem?_eq_getElem hj] at this
  rw [Addr.add_lit, Nat.zero_add]
  exact this

theorem HoldsB.keep {w w' : World} {g : Nat} {l : List UInt8} (h : HoldsB w g l) (hg : g < w.heap.size) (hb : Below w.heap.size w w') : HoldsB w' g l := fun j hj => by
  have he := hb.block g hg
  exact ⟨(World.cell?_of_block (a := ⟨g, j, none⟩) he).trans (h j hj).1, (World.frozen?_of_block (a := ⟨g, j, none⟩) he).trans (h j hj).2⟩
theorem cv_pre {W : World} {g n c : Nat} {l m : List UInt8} (h : RowB W g (l ++ m)) (hl : l.length = n) : (convert 40 9 (.slice (some ⟨g, 0, none⟩) n c)).run Tryd.prog W = .ok (.string (bytesOf l)) W := by
  subst hl
  rw [← nums_bytes]
  refine run_convert_bytes_arg W 40 5 Tryd.underlying40 Tryd.underlying5 g 0 l.length c (l.map fun b => (b.toNat : Int)) (by simp) ?_ 9 Tryd.underlying9
  intro i hi
  rw [Nat.zero_add]
  refine (cell_of_row W g i _ _ (0, 0) h).trans ?_
  have hi2 : i < l.length := by simpa using hi
  simp only [Lib.byteCells, List.map_append, List.getElem?_toArray]
  rw [List.getElem?_append_left (by rw [List.length_map]; exact hi2)]
  simp [hi2]
theorem xor8 (x c : UInt8) : bits BinOp.xor IntKind.u8 (x.toNat : Int) (c.toNat : Int) = ((x ^^^ c).toNat : Int) := by
  have hx := x.toNat_lt
  have hc := c.toNat_lt
  have h1 : ∀ y, y < 256 → ∀ d, d < 256 → bits BinOp.xor IntKind.u8 (y : Nat) (d : Nat) = ((y ^^^ d : Nat) : Int) := by
    intro y hy d hd
    have e : bits BinOp.xor IntKind.u8 (y : Int) (d : Int) = IntKind.wrap .u8 ((BitVec.ofInt 8 (y : Int) ^^^ BitVec.ofInt 8 (d : Int)).toNat : Int) := rfl
    have hl : y ^^^ d < 256 := Nat.xor_lt_two_pow (n := 8) hy hd
    rw [e, BitVec.toNat_xor, BitVec.toNat_ofInt, BitVec.toNat_ofInt]
    have e1 : ((y : Int) % ((2 : Nat) ^ 8 : Nat)).toNat = y := by omega
    have e2 : ((d : Int) % ((2 : Nat) ^ 8 : Nat)).toNat = d := by omega
    rw [e1, e2]
    show ((y ^^^ d : Nat) : Int) % 256 = _
    omega
  rw [h1 _ hx _ hc, UInt8.toNat_xor]
set_option maxRecDepth 100000 in
set_option maxHeartbeats 4000000 in
theorem room_big (p : ByteArray) (a b : Int) (w : World) (hT : TabW w) (hp : 600 < p.size) : Calls Tryd.prog 8 #[.string p, .int .u16 a, .int .u8 b] w fun e w' => e = .returned (.bool true) ∧ Below w.heap.size w w' := by
  have HT := hide hT
  clear hT
  have HB := hide (Below.refl w.heap.size w)
  have QA := hide (fun W hW => awake_p W hW)
  have h1 : (600 : Int) < p.size := by omega
  go_enter Tryd.func8, Tryd.ntmps8
  go_wp2_with fail
  refine (QA.out _ (HT.out.keep HB.out)).mono ?_
  rintro e wz1 ⟨rfl, hb⟩
  replace HB := hide (Bel.then HB.out hb)
  clear hb
  go_wp2_with fail
  go_ret
  exact ⟨rfl, HB.out⟩
set_option maxRecDepth 100000 in
set_option maxHeartbeats 4000000 in
theorem room_no (p : ByteArray) (a b : Int) (w : World) (hT : TabW w) (hp : p.size ≤ 600) (hn : rightB p = false) : Calls Tryd.prog 8 #[.string p, .int .u16 a, .int .u8 b] w fun e w' => e = .returned (.bool true) ∧ Below w.heap.size w w' := by
  have HT := hide hT
  clear hT
  have HB := hide (Below.refl w.heap.size w)
  have QA := hide (fun W hW => awake_p W hW)
  have h1 : ¬ (600 : Int) < p.size := by omega
  have Q1 := hide (fun W => right_c p (by omega) W)
  rw [hn] at Q1
  go_enter Tryd.func8, Tryd.ntmps8
  go_wp2_with fail
  refine (Q1.out _).mono ?_
  rintro e wz1 ⟨rfl, hb⟩
  replace HB := hide (Bel.then HB.out hb)
  clear hb
  go_wp2_with fail
  refine (QA.out _ (HT.out.keep HB.out)).mono ?_
  rintro e wz2 ⟨rfl, hb⟩
  replace HB := hide (Bel.then HB.out hb)
  clear hb
  go_wp2_with fail
  go_ret
  exact ⟨rfl, HB.out⟩
set_option maxRecDepth 100000 in
set_option maxHeartbeats 4000000 in
theorem room_w (p : ByteArray) (a b : Int) (w : World) (hT : TabW w) (hp : p.size ≤ 600) (hn : rightB p = true) (ha : 0 ≤ a ∧ a < 65536) (hb : 0 ≤ b ∧ b < 256) : Calls Tryd.prog 8 #[.string p, .int .u16 a, .int .u8 b] w fun e w' => e = .returned (.bool true) ∧ Below w.heap.size w w' := by
  have HT := hide hT
  clear hT
  have HB := hide (Below.refl w.heap.size w)
  have QA := hide (fun W hW => awake_p W hW)
  have h1 : ¬ (600 : Int) < p.size := by omega
  have hm : p.size ≤ 4000 := by omega
  have R := (rightP_iff p).mp hn
  obtain ⟨n, k, hroom, hfree, hn4, hks, hput, hput2⟩ := room_facts R
  have q1 := fun W => right_c p hm W
  rw [hn] at q1
  have q2 := fun W => room_c p hm W
  rw [hroom] at q2
  have q3 := fun W => freepage_c p hm W
  rw [hfree] at q3
  have q4 := fun W => slots_c p hm W
  have q5 := fun W => putpage_c p (k : Int) (zrs n) hm (by rw [zrs_size]; omega) W
  have q6 := fun W => putpage_c p (k : Int) (zrs (n + 1)) hm (by rw [zrs_size]; omega) W
  have q7 := fun W hW => seal_p p hm W hW
  have hsz := seal_sz R
  have q8 := fun W hW => sealed_c (sealS p) (by omega) W hW
  rw [seal_sealed R] at q8
  have q9 := fun W => plain_c (sealS p) (by omega) W
  rw [plain_seal R] at q9
  have q10 := fun W => plain_c p hm W
  obtain ⟨i, hi⟩ : ∃ i : Nat, i = (a % 512).toNat := ⟨_, rfl⟩
  have hi512 : i < 512 := by omega
  obtain ⟨c, hc⟩ : ∃ c : UInt8, (c.toNat : Int) = b := ⟨UInt8.ofNat b.toNat, by rw [UInt8.toNat_ofNat']; omega⟩
  have hlen := bl_len (sealS p)
  rw [hsz] at hlen
  obtain ⟨x, hx⟩ : ∃ x, (sealS p).data.toList.getD i 0 = x := ⟨_, rfl⟩
  have hturn := hide (fun (t : ByteArray) (ht : t.data.toList = (sealS p).data.toList.set i (x ^^^ c)) => sealed_turned R hi512 c (hx ▸ ht))
  have q11 := fun (t : ByteArray) (ht : t.data.toList = (sealS p).data.toList.set i (x ^^^ c)) W hW => (show Calls Tryd.prog 26 #[.string t] W fun e w' => e = .returned (.bool (decide (c = 0))) ∧ Below W.heap.size W w' from hturn.out t ht ▸ sealed_c t (by rw [← bl_len, ht, List.length_set]; omega) W hW)
  have HMB := hide (fun W => made_bytes W (sealS p))
  have hxor := xor8 x c
  rw [hc] at hxor
  generalize x ^^^ c = y at *
  have hxl := y.toNat_lt
  have hxx := x.toNat_lt
  have hbc : (b == 0) = decide (c = 0) := by
    by_cases h : c = 0
    · subst h; rw [← hc]; rfl
    · have : c.toNat ≠ 0 := fun h2 => h (UInt8.toNat_inj.1 h2)
      rw [decide_eq_false h]
      simp
      omega
  obtain ⟨N1, hN1⟩ : ∃ N1, n + 1 = N1 := ⟨_, rfl⟩
  rw [hN1] at q6 hput2
  have hmk := mkN N1 (by omega)
  have hwn : IntKind.i64.wrap ((n : Int) + 1) = (N1 : Int) := by rw [IntWalk.i64_in _ (by omega)]; omega
  have hwa : IntKind.i64.wrap a = a := IntWalk.i64_in _ (by omega)
  have hmod : a.tmod 512 = (i : Int) := by rw [Int.tmod_eq_emod_of_nonneg ha.1]; omega
  have hwi : IntKind.i64.wrap (i : Int) = (i : Int) := IntWalk.i64_in _ (by omega)
  have n0 : ¬ (n : Int) < 0 := by omega
  have n4 : ¬ (400 : Int) < (n : Int) := by omega
  have k0 : ¬ (k : Int) < 0 := by omega
  have ks : ¬ (slotsS p : Int) < (k : Int) := by omega
  have hnn : (n : Int) ≤ (N1 : Int) := by omega
  have hN0 : ¬ N1 = 0 := by omega
  have hN00 : ¬ (N1 : Int) = 0 := by omega
  have HZN := hide (show List.replicate n (0 : UInt8) ++ [0] = List.replicate N1 0 by rw [← hN1, List.replicate_succ'])
  have hi5 : (i : Int) < 512 := by omega
  generalize hP1 : putS p (k : Int) (zrs n) = P1 at *
  generalize hP2 : putS p (k : Int) (zrs N1) = P2 at *
  obtain ⟨a1, e1⟩ := P1
  obtain ⟨a2, e2⟩ := P2
  dsimp only at hput hput2
  have he2 : (e2 == 0) = false := by simp [hput2]
  have HPUT := hide hput
  clear hput
  have HSB : Hid ((sealS p).data.toList.length = 512) := hide hlen
  generalize sealS p = s at *
  generalize setLsnS p (lsnS p) = PL at *
  generalize slotsS p = sl at *
  have hsi : (s.size : Int) = 512 := by omega
  have hx3 : (s.data.toList.getD i 0) = x := hx
  have HX3 := hide hx3
  clear hx hx3
  have Q1 := hide q1
  have Q2 := hide q2
  have Q3 := hide q3
  have Q4 := hide q4
  have Q5 := hide q5
  have Q6 := hide q6
  have Q7 := hide q7
  have Q8 := hide q8
  have Q9 := hide q9
  have Q10 := hide q10
  have Q11 := hide q11
  clear q1 q2 q3 q4 q5 q6 q7 q8 q9 q10 q11 R hn hroom hfree hP1 hP2 hput2 hlen hi hc hks hN1 hturn
  have t1 : ∀ b : Bool, (b == b) = true := fun b => by cases b <;> rfl
  have t2 : ∀ x : Int, decide (x = x) = true := fun x => by simp
  have t3 : ∀ x : Int, (x == x) = true := fun x => by simp
  have t4 : ∀ s : ByteArray, (s.toList == s.toList) = true := fun s => by simp
  go_enter Tryd.func8, Tryd.ntmps8
  go_wp2_with fail
  refine (Q1.out _).mono ?_
  rintro e wz1 ⟨rfl, hb⟩
  replace HB := hide (Bel.then HB.out hb)
  clear hb
  go_wp2_with fail
  refine (Q2.out _).mono ?_
  rintro e wz2 ⟨rfl, hb⟩
  replace HB := hide (Bel.then HB.out hb)
  clear hb
  go_wp2_with fail
  refine (Q3.out _).mono ?_
  rintro e wz3 ⟨rfl, hb⟩
  replace HB := hide (Bel.then HB.out hb)
  clear hb
  go_wp2_with fail
  refine (Q4.out _).mono ?_
  rintro e wz4 ⟨rfl, hb⟩
  replace HB := hide (Bel.then HB.out hb)
  clear hb
  go_upto_region 7 with (fail)
  have HR := hide (show RowB (wz4.alloc (.cells (madeCells #[.int .u8 0] N1) 5)) wz4.heap.size (List.replicate N1 0) by rw [made_zeros]; exact RowB.new _ _)
  replace HB := hide (HB.out.alloc HB.out.size (.cells (madeCells #[.int .u8 0] N1) 5))
  clear hmk
  generalize wz4.alloc (.cells (madeCells #[.int .u8 0] N1) 5) = wm at *
  generalize wz4.heap.size = gm at *
  have hcv1 := cv_pre (c := N1) (l := List.replicate n 0) (m := [0]) (n := n) (HZN.out ▸ HR.out) (List.length_replicate)
  have ez1 : bytesOf (List.replicate n 0) = zrs n := rfl
  rw [ez1] at hcv1
  clear ez1
  go_wp2_with fail
  refine (Q5.out _).mono ?_
  rintro e wz5 ⟨rfl, hb⟩
  replace HB := hide (Bel.then HB.out hb)
  replace HR := hide (HR.out.kept hb)
  clear hb
  clear hcv1
  have hcv2 := cv_pre (c := N1) (l := List.replicate N1 0) (m := []) (n := N1) (by rw [List.append_nil]; exact HR.out) (List.length_replicate)
  have ez2 : bytesOf (List.replicate N1 0) = zrs N1 := rfl
  rw [ez2] at hcv2
  clear ez2
  go_wp2_with fail
  refine (Q6.out _).mono ?_
  rintro e wz6 ⟨rfl, hb⟩
  replace HB := hide (Bel.then HB.out hb)
  replace HR := hide (HR.out.kept hb)
  clear hb
  clear hcv2
  go_upto_region 9 with (fail)
  by_cases h0 : n = 0
  · have hput := HPUT.out
    clear HPUT
    rw [if_pos h0] at hput
    subst hput
    have c1 : ¬ (0 : Int) < (n : Int) := by omega
    have c2 : ((n : Int) == 0) = true := by simp [h0]
    clear h0
    go_wp2_with fail
    refine (Q7.out _ (fun W hW => HT.out.keep (Bel.then HB.out hW))).mono ?_
    rintro e wz7 ⟨rfl, hb⟩
    replace HB := hide (Bel.then HB.out hb)
    clear hb
    go_wp2_with fail
    refine (Q8.out _ (HT.out.keep HB.out)).mono ?_
    rintro e wz8 ⟨rfl, hb⟩
    replace HB := hide (Bel.then HB.out hb)
    clear hb
    go_wp2_with fail
    refine (Q9.out _).mono ?_
    rintro e wz9 ⟨rfl, hb⟩
    replace HB := hide (Bel.then HB.out hb)
    clear hb
    go_wp2_with fail
    refine (Q10.out _).mono ?_
    rintro e wz10 ⟨rfl, hb⟩
    replace HB := hide (Bel.then HB.out hb)
    clear hb
    have hgw : w.heap.size ≤ wz10.heap.size := HB.out.size
    obtain ⟨cap, W1, hcv, hcap, hb, hH, hlt⟩ := HMB.out wz10
    rw [hsz] at hcv hcap
    go_upto_region 15 with (fail)
    have HH := hide hH
    replace HB := hide (Bel.then HB.out hb)
    have HLT := hide hlt
    clear hb hH hcv hlt
    generalize wz10.heap.size = g3 at *
    have hil : i < s.data.toList.length := by rw [HSB.out]; exact hi512
    obtain ⟨y0, y1⟩ := HH.out i hil
    rw [HX3.out] at y0
    go_upto_region 16 with (fail)
    have HH2 := hide (show HoldsB (W1.setCell ⟨g3, i, none⟩ (.int .u8 (y.toNat : Int))) g3 (s.data.toList.set i y) from HH.out.set hil y rfl)
    replace HB := hide (HB.out.setCell (p := ⟨g3, i, none⟩) hgw (.int .u8 (y.toNat : Int)))
    have HLT2 := hide (show g3 < (W1.setCell ⟨g3, i, none⟩ (.int .u8 (y.toNat : Int))).heap.size by rw [World.size_setCell]; exact HLT.out)
    clear HH y0 y1 HLT
    generalize W1.setCell ⟨g3, i, none⟩ (.int .u8 (y.toNat : Int)) = W2 at *
    go_wp2_with fail
    refine (QA.out _ (HT.out.keep HB.out)).mono ?_
    rintro e wz11 ⟨rfl, hb⟩
    replace HB := hide (Bel.then HB.out hb)
    have HH3 := hide (HH2.out.keep HLT2.out hb)
    clear hb HH2 HLT2
    have hcv4 := back_c wz11 g3 cap (s.data.toList.set i y) 512 (by rw [List.length_set, HSB.out]) HH3.out
    have htb : (⟨(s.data.toList.set i y).toArray⟩ : ByteArray).data.toList = s.data.toList.set i y := rfl
    have Q12 := hide (fun W hW => Q11.out _ htb W hW)
    clear htb
    generalize (⟨(s.data.toList.set i y).toArray⟩ : ByteArray) = tt at *
    go_wp2_with fail
    refine (Q12.out _ (HT.out.keep HB.out)).mono ?_
    rintro e wz12 ⟨rfl, hb⟩
    replace HB := hide (Bel.then HB.out hb)
    clear hb
    go_wp2_with fail
    go_ret
    exact ⟨rfl, HB.out⟩
  · have hput := HPUT.out
    clear HPUT
    rw [if_neg h0] at hput
    subst hput
    have c1 : (0 : Int) < (n : Int) := by omega
    have c2 : ((n : Int) == 0) = false := by simp [h0]
    clear h0
    go_wp2_with fail
    refine (Q7.out _ (fun W hW => HT.out.keep (Bel.then HB.out hW))).mono ?_
    rintro e wz7 ⟨rfl, hb⟩
    replace HB := hide (Bel.then HB.out hb)
    clear hb
    go_wp2_with fail
    refine (Q8.out _ (HT.out.keep HB.out)).mono ?_
    rintro e wz8 ⟨rfl, hb⟩
    replace HB := hide (Bel.then HB.out hb)
    clear hb
    go_wp2_with fail
    refine (Q9.out _).mono ?_
    rintro e wz9 ⟨rfl, hb⟩
    replace HB := hide (Bel.then HB.out hb)
    clear hb
    go_wp2_with fail
    refine (Q10.out _).mono ?_
    rintro e wz10 ⟨rfl, hb⟩
    replace HB := hide (Bel.then HB.out hb)
    clear hb
    have hgw : w.heap.size ≤ wz10.heap.size := HB.out.size
    obtain ⟨cap, W1, hcv, hcap, hb, hH, hlt⟩ := HMB.out wz10
    rw [hsz] at hcv hcap
    go_upto_region 15 with (fail)
    have HH := hide hH
    replace HB := hide (Bel.then HB.out hb)
    have HLT := hide hlt
    clear hb hH hcv hlt
    generalize wz10.heap.size = g3 at *
    have hil : i < s.data.toList.length := by rw [HSB.out]; exact hi512
    obtain ⟨y0, y1⟩ := HH.out i hil
    rw [HX3.out] at y0
    go_upto_region 16 with (fail)
    have HH2 := hide (show HoldsB (W1.setCell ⟨g3, i, none⟩ (.int .u8 (y.toNat : Int))) g3 (s.data.toList.set i y) from HH.out.set hil y rfl)
    replace HB := hide (HB.out.setCell (p := ⟨g3, i, none⟩) hgw (.int .u8 (y.toNat : Int)))
    have HLT2 := hide (show g3 < (W1.setCell ⟨g3, i, none⟩ (.int .u8 (y.toNat : Int))).heap.size by rw [World.size_setCell]; exact HLT.out)
    clear HH y0 y1 HLT
    generalize W1.setCell ⟨g3, i, none⟩ (.int .u8 (y.toNat : Int)) = W2 at *
    go_wp2_with fail
    refine (QA.out _ (HT.out.keep HB.out)).mono ?_
    rintro e wz11 ⟨rfl, hb⟩
    replace HB := hide (Bel.then HB.out hb)
    have HH3 := hide (HH2.out.keep HLT2.out hb)
    clear hb HH2 HLT2
    have hcv4 := back_c wz11 g3 cap (s.data.toList.set i y) 512 (by rw [List.length_set, HSB.out]) HH3.out
    have htb : (⟨(s.data.toList.set i y).toArray⟩ : ByteArray).data.toList = s.data.toList.set i y := rfl
    have Q12 := hide (fun W hW => Q11.out _ htb W hW)
    clear htb
    generalize (⟨(s.data.toList.set i y).toArray⟩ : ByteArray) = tt at *
    go_wp2_with fail
    refine (Q12.out _ (HT.out.keep HB.out)).mono ?_
    rintro e wz12 ⟨rfl, hb⟩
    replace HB := hide (Bel.then HB.out hb)
    clear hb
    go_wp2_with fail
    go_ret
    exact ⟨rfl, HB.out⟩
end Go.Proofs.YtfdedkcidemimaaDoor
