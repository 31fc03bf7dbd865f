/- The walk of ScalarRight. -/
import Derived.Test.YtlkeghfdpbfhbaaRtM
namespace Go.Proofs.Ytlkeghfdpbfhbaa
set_option linter.unusedVariables false
open Go.ChangeShapes Go.WideShapes Go.ChangeAt Go.RowKit

theorem term_info : (Try.prog.info? 32).map (fun i => (i.zero, i.size, i.bytes)) = some (some (.agg #[.int .i64 0, .int .i64 0, .int .i64 0, .string .empty, .int .i64 0, .int .i64 0, .string .empty, .slice none 0 0, .slice none 0 0, .int .i64 0]), 10, 128) := by kernel_rfl
/-- The term of a column. -/
def colNd (i : Nat) : Nd := ⟨2, nullV, 0, i, .empty, none, 0, 0, none, 0, 0, 0⟩
def colNds (k : Nat) : List Nd := (List.range k).map colNd
theorem colNds_len (k : Nat) : (colNds k).length = k := by unfold colNds; rw [List.length_map, List.length_range]
theorem colNds_step (k : Nat) : colNds (k + 1) = colNds k ++ [colNd k] := by unfold colNds; rw [List.range_succ, List.map_append]; rfl
def colT (i : Nat) : Trm := .mk 2 nullV 0 i .empty []
def rowT (op : Int) (nm : ByteArray) (n : Nat) : Trm := .mk op nullV 0 0 nm ((List.range n).map colT)
theorem rowT_small (op : Int) (nm : ByteArray) {n : Nat} (h : n ≤ 1048576) : smallT 1048576 2 (rowT op nm n) = true := by
  rw [smallT, Bool.and_eq_true, decide_eq_true_eq]
  refine ⟨by show ((List.range n).map colT).length ≤ _; rw [List.length_map, List.length_range]; exact h, List.all_eq_true.2 fun u hu => ?_⟩
  obtain ⟨i, _, rfl⟩ := List.mem_map.1 hu
  rfl
theorem rowT_short (op : Int) (nm : ByteArray) (n : Nat) : shortT 2 (rowT op nm n) = true := by
  rw [shortT, Bool.and_eq_true]
  refine ⟨List.all_eq_true.2 fun u hu => ?_, rfl⟩
  obtain ⟨i, _, rfl⟩ := List.mem_map.1 hu
  rfl
theorem rowT_eval {op : Int} (hop : ¬ (op = 1 ∨ op = 2 ∨ op = 26 ∨ op = 27 ∨ op = 28)) (nm : ByteArray) (A : Option Addr) (n c : Nat) (l : List ValV) (hl : l.length = n) (more : List ER) : evalT ((A, n, c, l) :: more) 2 (rowT op nm n) = applyV op nm l := by
  rw [evalT, if_neg (by show ¬ op = 1; omega), if_neg (by show ¬ op = 2; omega), if_neg (by show ¬ (op = 26 ∨ op = 27 ∨ op = 28); omega)]
  show applyV op nm (((List.range n).map colT).map (evalT ((A, n, c, l) :: more) 1)) = _
  congr 1
  apply List.ext_getElem?
  intro i
  rw [List.map_map, List.getElem?_map]
  by_cases hi : i < n
  · rw [List.getElem?_range hi, List.getElem?_eq_getElem (by omega)]
    show some (evalT ((A, n, c, l) :: more) 1 (colT i)) = _
    congr 1
    rw [evalT, if_neg (by show ¬ (2 : Int) = 1; omega), if_pos (by show (2 : Int) = 2; rfl)]
    show colV ((A, n, c, l) :: more) 0 (i : Int) = _
    unfold colV
    rw [if_pos ⟨by omega, by omega⟩, Int.toNat_natCast]
    show ((l[i]?).getD nullV) = _
    rw [List.getElem?_eq_getElem (by omega)]
    rfl
  · rw [List.getElem?_eq_none (by rw [List.length_range]; omega), List.getElem?_eq_none (by omega)]
    rfl
/-- The loop's state: the result's box, the terms of the columns. -/
structure RtS (w : World) (g9 : Nat) (v : ValV) (base k : Nat) (u : Value) (wr : World) : Prop where
  r : VB wr g9 v
  o : wr.ownsRow base 32 10 u (colNds k).length ((colNds k).map ndCells).flatten
  hb : Below w.heap.size w wr
  b0 : w.heap.size ≤ g9
  b1 : g9 < base
  b2 : base ≤ wr.heap.size
theorem RtS.kept {w : World} {g9 base k : Nat} {v : ValV} {u : Value} {wr w' : World} (h : RtS w g9 v base k u wr) (hb : Below wr.heap.size wr w') : RtS w g9 v base k u w' :=
  ⟨h.r.kept hb, own_below h.o hb, Bel.then h.hb hb, h.b0, h.b1, Nat.le_trans h.b2 hb.size⟩
theorem RtS.app {w : World} {g9 base k : Nat} {v : ValV} {u u' : Value} {wr w' : World} (h : RtS w g9 v base k u wr) (ho : w'.ownsRow base 32 10 u' ((colNds k).length + 1) (((colNds k).map ndCells).flatten ++ ndCells (colNd k))) (hg : wr.grownBy w' u.ownBlock) : RtS w g9 v base (k + 1) u' w' := by
  have h0 := h.b0
  have h1 := h.b1
  have h2 := h.b2
  have hlt : ∀ k, u.ownBlock = some k → base ≤ k := fun k hk => (h.o.lt k hk).1
  have hbl : ∀ g, g < wr.heap.size → g < base → w'.heap[g]? = wr.heap[g]? := fun g h1 h2 => hg.block g h1 (fun e => by have := hlt g (by first | exact e | exact e.symm); omega)
  have hB : Below w.heap.size w w' := h.hb.grown hg h.hb.size (fun k hk => by have := hlt k hk; omega)
  exact ⟨(hbl _ h.r.lt (by omega)).trans h.r, by rw [colNds_step]; simpa using ho, hB, h0, h1, Nat.le_trans h2 hg.size⟩
theorem RtS.new {w w2 : World} (hb : Below w.heap.size w w2) (v : ValV) : RtS w w2.heap.size v (w2.heap.size + 1) 0 (.slice (some ⟨w2.heap.size + 1, 0, none⟩) 0 0) ((w2.alloc (.cells #[.int .i64 v.kind, .int .i64 v.num, .string v.str] 26)).alloc (.cells #[] 32)) := by
  have s1 : (w2.alloc (.cells #[.int .i64 v.kind, .int .i64 v.num, .string v.str] 26)).heap.size = w2.heap.size + 1 := World.size_alloc _ _
  have ho : ((w2.alloc (.cells #[.int .i64 v.kind, .int .i64 v.num, .string v.str] 26)).alloc (.cells #[] 32)).ownsRow (w2.alloc (.cells #[.int .i64 v.kind, .int .i64 v.num, .string v.str] 26)).heap.size 32 10 (.slice (some ⟨(w2.alloc (.cells #[.int .i64 v.kind, .int .i64 v.num, .string v.str] 26)).heap.size, 0, none⟩) 0 0) 0 [] := World.ownsRow_lit _ _ 0 (Nat.le_refl _) (by simp only [maxLen]; omega) rfl
  rw [s1] at ho
  refine ⟨(vb_new w2 _ _ _).kept (Bel.one _ _), ho, Bel.then (Bel.then hb (Bel.one _ _)) (Bel.one _ _), hb.size, Nat.lt_succ_self _, by rw [World.size_alloc, s1]; omega⟩
/-- An env of one row, of two. -/
theorem heads_blk {w : World} {g n : Nat} {cs : Array Value} {t : TypeId} {ps : List ER} (h : Hp w g cs t) (hcs : cs.toList = (ps.map erC).flatten) (hl : ps.length = n) (hm : n ≤ maxLen) : SlAt erC 1 w w.heap.size (some ⟨g, 0, none⟩) n n ps := by
  refine ⟨hl, Nat.le_refl _, hm, (by simp), ⟨by intro xs hx; obtain ⟨x, _, rfl⟩ := List.mem_map.1 hx; rfl, fun hn => ⟨g, 0, rfl, h.lt, fun i u hu => ?_⟩⟩⟩
  rw [Nat.zero_add]
  have h1 := cell_of_row w g i cs t (0, 0) h
  rw [h1, ← hu, ← hcs]
  simp
theorem env1 {w : World} {g : Nat} {A : Option Addr} {n c : Nat} {l : List ValV} (hp : Hp w g #[.slice A n c] 36) (h : RowV w w.heap.size A n c l) : EnvAt w w.heap.size (some ⟨g, 0, none⟩) 1 1 [(A, n, c, l)] :=
  ⟨heads_blk hp rfl rfl (by simp only [maxLen]; omega), fun p hp => by
    rw [List.mem_singleton] at hp
    subst hp
    exact h⟩
theorem env2 {w : World} {g0 : Nat} {A B : Option Addr} {n c m d : Nat} {l k : List ValV} (hp : Hp w g0 #[.slice A n c, .slice B m d] 36) (h : RowV w w.heap.size A n c l) (g : RowV w w.heap.size B m d k) : EnvAt w w.heap.size (some ⟨g0, 0, none⟩) 2 2 [(A, n, c, l), (B, m, d, k)] :=
  ⟨heads_blk hp rfl rfl (by simp only [maxLen]; omega), fun p hp => by
    simp only [List.mem_cons, List.not_mem_nil, or_false] at hp
    rcases hp with rfl | rfl
    · exact h
    · exact g⟩
theorem tat_row {w : World} {A : Option Addr} {n c : Nat} (op : Int) (nm : ByteArray) (h : SlAt ndCells 10 w w.heap.size A n c (colNds n)) : TAt w w.heap.size 2 ⟨op, nullV, 0, 0, nm, A, n, c, none, 0, 0, 0⟩ (rowT op nm n) := by
  refine ⟨⟨rfl, rfl, rfl, rfl, rfl⟩, colNds n, h, by rw [colNds_len]; show n = ((List.range n).map colT).length; rw [List.length_map, List.length_range], fun i y u hy hu => ?_⟩
  have hi := (List.getElem?_eq_some_iff.1 hy).1
  rw [colNds_len] at hi
  unfold colNds at hy
  rw [List.getElem?_map, List.getElem?_range hi] at hy
  have hu2 : ((List.range n).map colT)[i]? = some u := hu
  rw [List.getElem?_map, List.getElem?_range hi] at hu2
  injection hy with hy
  injection hu2 with hu2
  subst hy hu2
  exact ⟨⟨rfl, rfl, rfl, rfl, rfl⟩, [], SlAt.empty _ _ _ _, rfl, fun i y u hy => by simp at hy⟩
set_option maxRecDepth 100000 in
set_option maxHeartbeats 16000000 in
theorem rightW_w (op : Int) (nm : ByteArray) (A B : Option Addr) (n c bn bc : Nat) (l bl : List ValV) (w : World) (h : RowV w w.heap.size A n c l) (hB : RowV w w.heap.size B bn bc bl) (hok : ∀ a ∈ l, OkV a) (hokB : ∀ a ∈ bl, OkV a) (hn : n ≤ 1048576) : Calls Try.prog 5 #[.int .i64 op, .string nm, .slice A n c, .slice B bn bc] w fun e w' => e = .returned (.bool true) ∧ Below w.heap.size w w' := by
  have QS := hide (fun W h => short_c A n c l W h)
  have HR := hide h
  have HM := hide hB
  have HLn := hide h.len
  have hsz : ∀ a ∈ l, a.str.size ≤ 1048576 := fun a ha => (hok a ha).2
  have hszB : ∀ a ∈ bl, a.str.size ≤ 1048576 := fun a ha => (hokB a ha).2
  cases hsp : shortP l with
  | false =>
    rw [hsp] at QS
    clear h hB hok hokB hsz hszB
    go_enter Try.func5, Try.ntmps5
    go_wp2_with fail
    refine (QS.out _ HR.out).mono ?_
    rintro e w2 ⟨rfl, rfl⟩
    go_wp2_with fail
    refine (awake_c _).mono ?_
    rintro e w3 ⟨rfl, hb⟩
    go_wp2_with fail
    go_ret
    exact ⟨rfl, hb⟩
  | true =>
    rw [hsp] at QS
    have Q1 := hide (fun W h => apply_c op nm A n c l W h hsz)
    have HRA := hide (fun h => right_apply op nm l h)
    have QR := hide (fun W h => rights_c A n c l W h hn hok)
    have HEV := hide (fun hop more => rowT_eval (op := op) hop nm A n c l h.len more)
    have QE := hide (fun ps hps E m ce x W h1 h2 => eval_c 1048576 (Nat.le_refl _) 1048576 (by omega) (Nat.le_refl _) E m ce ps hps 2 2 x (rowT op nm n) W (rowT_small op nm hn) (rowT_short op nm n) h1 h2)
    have HPS1 := hide (show ∀ p ∈ [((A, n, c, l) : ER)], ∀ v ∈ p.2.2.2, v.str.size ≤ 1048576 from fun p hp => by
      rw [List.mem_singleton] at hp
      subst hp
      exact hsz)
    have HPS2 := hide (show ∀ p ∈ [((A, n, c, l) : ER), (B, bn, bc, bl)], ∀ v ∈ p.2.2.2, v.str.size ≤ 1048576 from fun p hp => by
      simp only [List.mem_cons, List.not_mem_nil, or_false] at hp
      rcases hp with rfl | rfl
      · exact hsz
      · exact hszB)
    have HVS := hide (apply_size (M := 1048576) (by omega) op nm l hsz)
    clear h hB hok hokB hsz hszB hsp
    obtain ⟨v, hv⟩ : ∃ v, applyV op nm l = v := ⟨_, rfl⟩
    rw [hv] at Q1 HVS HRA
    have HV := hide hv
    have QV := hide (fun W => right_c v.kind v.num v.str W (by have := HVS.out; unfold maxLen; omega))
    have HRP : Hid (∀ h, rightV v.kind v.num v.str = true) := fun h => HRA.out h
    have E1 := hide (valEq_same v.kind v.num v.str)
    unfold GivesV valAgg at Q1
    clear hv HVS HRA
    obtain ⟨i0, hi0, hz0, hz1, hz2⟩ := info_parts term_info
    go_enter Try.func5, Try.ntmps5
    go_wp2_with fail
    refine (QS.out _ HR.out).mono ?_
    rintro e w1 ⟨rfl, rfl⟩
    go_wp2_with fail
    refine (Q1.out _ HR.out).mono ?_
    rintro e w2 ⟨rfl, hb⟩
    have HRS0 := hide (RtS.new hb v)
    clear hb
    go_upto_region 5 with (fail)
    (try simp only [Nat.add_assoc, Nat.reduceAdd])
    generalize (w2.alloc (.cells #[.int .i64 v.kind, .int .i64 v.num, .string v.str] 26)).alloc (.cells #[] 32) = w3 at *
    obtain ⟨base, hbase⟩ : ∃ base, w2.heap.size + 1 = base := ⟨_, rfl⟩
    rw [hbase] at HRS0
    (try rw [hbase])
    clear hbase
    generalize w2.heap.size = g9 at *
    go_wp2_with fail
    go_loopw [10, 11] (fun u10 i wr => ∃ k : Nat, k ≤ n ∧ i = .int .i64 k ∧ Hid (RtS w g9 v base k u10 wr)) (fun _ i _ => n - (intOf i).toNat)
    case atStart => exact ⟨0, Nat.zero_le _, rfl, HRS0⟩
    case round =>
      clear HRS0
      obtain ⟨k, hk, rfl, HRS⟩ := hrel
      by_cases hlt : k < n
      · have hlti : (k : Int) < n := by omega
        have hwk : IntKind.i64.wrap ((k : Int) + 1) = (k : Int) + 1 := IntWalk.i64_in _ (by omega)
        have HL := hide (colNds_len k)
        have HLT := hide (show Cells (wr.alloc (.cells #[.int .i64 2, .int .i64 0, .int .i64 0, .string { data := #[] }, .int .i64 0, .int .i64 k, .string { data := #[] }, .slice none 0 0, .slice none 0 0, .int .i64 0] 32)) (wr.heap.size + 1) (some ⟨wr.heap.size, 0, none⟩) (ndCells (colNd k)) from cells_lit wr _ _)
        replace HRS := hide (HRS.out.kept (Bel.one wr (.cells #[.int .i64 2, .int .i64 0, .int .i64 0, .string { data := #[] }, .int .i64 0, .int .i64 k, .string { data := #[] }, .slice none 0 0, .slice none 0 0, .int .i64 0] 32)))
        go_wp2_with (at_builtin; refine wpList_app rfl (.tmp 28) (.tmp 31) 29 rfl base 32 i0 _ 10 128 Try.underlying29 hi0 hz0 hz1 hz2 rfl (by omega) _ (colNds k).length _ rfl HRS.out.o _ _ 1 1 (ndCells (colNd k)) rfl rfl HLT.out (by simp [ndCells, Value.oneCell']) (by rw [HL.out]; simp only [maxLen]; omega) (by rw [HL.out]; omega) HRS.out.b2 (by simp) ?_; intro v5 w5 hown5 hg5 _)
        have HRS5 := hide (HRS.out.app hown5 hg5)
        clear hown5 hg5 HRS HLT HL
        go_roundw
        case rel => exact ⟨k + 1, by omega, by go_num, HRS5⟩
        case measure => simp [intOf]; omega
      · have hlti : ¬ (k : Int) < n := by omega
        obtain rfl : k = n := by omega
        obtain ⟨A2, c2, rfl, hrow⟩ := sl_of_own HRS.out.o ndCells_len
        rw [colNds_len] at hrow
        have HL := colNds_len k
        (try rw [HL])
        have HVB := hide HRS.out.r
        have HBW := hide HRS.out.hb
        have HTX := hide (hp_new wr #[.int .i64 op, .int .i64 0, .int .i64 0, .string { data := #[] }, .int .i64 0, .int .i64 0, .string nm, .slice A2 k c2, .slice none 0 0, .int .i64 0] 32)
        have HB1 := hide (Bel.one wr (.cells #[.int .i64 op, .int .i64 0, .int .i64 0, .string { data := #[] }, .int .i64 0, .int .i64 0, .string nm, .slice A2 k c2, .slice none 0 0, .int .i64 0] 32))
        have HTA := hide (tat_row op nm (hrow.kept HB1.out))
        have HBX := hide (Bel.then HBW.out HB1.out)
        have HVX := hide (HVB.out.kept HB1.out)
        have HRX := hide (HR.out.kept HBX.out)
        have HMX := hide (HM.out.kept HBX.out)
        clear HL hrow HRS HB1 HBW HVB
        go_upto_region 10 with (fail)
        generalize wr.alloc (.cells #[.int .i64 op, .int .i64 0, .int .i64 0, .string { data := #[] }, .int .i64 0, .int .i64 0, .string nm, .slice A2 k c2, .slice none 0 0, .int .i64 0] 32) = wX at *
        generalize wr.heap.size = gt at *
        by_cases hop : op = 1 ∨ op = 2 ∨ op = 26 ∨ op = 27 ∨ op = 28
        · rcases hop with rfl | rfl | rfl | rfl | rfl
          all_goals
            go_wp2_with fail
            refine (awake_c _).mono ?_
            rintro e w8 ⟨rfl, hb⟩
            replace HBX := hide (Bel.then HBX.out hb)
            clear hb
            go_wp2_with fail
            go_ret
            exact ⟨rfl, HBX.out⟩
        · have e1 : (op == 1) = false := by rw [beq_eq_false_iff_ne]; omega
          have e2 : (op == 2) = false := by rw [beq_eq_false_iff_ne]; omega
          have e3 : (op == 26) = false := by rw [beq_eq_false_iff_ne]; omega
          have e4 : (op == 27) = false := by rw [beq_eq_false_iff_ne]; omega
          have e5 : (op == 28) = false := by rw [beq_eq_false_iff_ne]; omega
          have QE1 : Hid (∀ E W, TAt W W.heap.size 2 ⟨op, nullV, 0, 0, nm, A2, k, c2, none, 0, 0, 0⟩ (rowT op nm k) → EnvAt W W.heap.size E 1 1 [(A, k, c, l)] → Calls Try.prog 14 #[.agg #[.int .i64 op, .int .i64 0, .int .i64 0, .string { data := #[] }, .int .i64 0, .int .i64 0, .string nm, .slice A2 k c2, .slice none 0 0, .int .i64 0], .slice E 1 1] W fun e w' => e = .returned (.agg #[.int .i64 v.kind, .int .i64 v.num, .string v.str]) ∧ Below W.heap.size W w') := fun E W h1 h2 => by
            have := QE.out [(A, k, c, l)] HPS1.out E 1 1 _ W h1 h2
            rw [HEV.out hop [], HV.out] at this
            exact this
          have QE2 : Hid (∀ E W, TAt W W.heap.size 2 ⟨op, nullV, 0, 0, nm, A2, k, c2, none, 0, 0, 0⟩ (rowT op nm k) → EnvAt W W.heap.size E 2 2 [(A, k, c, l), (B, bn, bc, bl)] → Calls Try.prog 14 #[.agg #[.int .i64 op, .int .i64 0, .int .i64 0, .string { data := #[] }, .int .i64 0, .int .i64 0, .string nm, .slice A2 k c2, .slice none 0 0, .int .i64 0], .slice E 2 2] W fun e w' => e = .returned (.agg #[.int .i64 v.kind, .int .i64 v.num, .string v.str]) ∧ Below W.heap.size W w') := fun E W h1 h2 => by
            have := QE.out [(A, k, c, l), (B, bn, bc, bl)] HPS2.out E 2 2 _ W h1 h2
            rw [HEV.out hop [(B, bn, bc, bl)], HV.out] at this
            exact this
          clear QE HEV HPS1 HPS2 hop Q1 QS HR HM
          cases hall : l.all rightP with
          | true =>
            have hrp : rightV v.kind v.num v.str = true := HRP.out (fun a ha => List.all_eq_true.1 hall a ha)
            rw [hall] at QR
            rw [hrp] at QV
            clear hrp hall HRP HV
            go_upto_region 12 with (fail)
            refine wp_region_held_drew (S := (fun w' => Below wX.heap.size wX w')) (by kernel_rfl) ((Below.refl _ _).drew) (fun hHeld => ?_)
            refine wpAnyH_ready (rs := [0]) (by kernel_rfl) (by simp) ?_
            refine AllReadyH.cons nth0 (fun K hK => ?_) AllReadyH.nil
            go_simp
            (first | (go_at_call 9; refine (awake_c _).mono ?_; rintro e w' ⟨rfl, hb⟩) | (go_at_call 18; refine (QR.out _ (HRX.out.kept hHeld)).mono ?_; rintro e w' ⟨rfl, hb⟩) | (go_at_call 19; refine (QV.out _).mono ?_; rintro e w' ⟨rfl, hb⟩) | (go_at_call 14; with_reducible refine (QE1.out _ _ (HTA.out.kept hHeld) (env1 (hp_new _ _ _) (HRX.out.kept hHeld))).mono ?_; rintro e w' ⟨rfl, hb⟩) | (go_at_call 14; with_reducible refine (QE2.out _ _ (HTA.out.kept hHeld) (env2 (hp_new _ _ _) (HRX.out.kept hHeld) (HMX.out.kept hHeld))).mono ?_; rintro e w' ⟨rfl, hb⟩))
            refine hK.out _ _ (Bel.then hHeld hb) (fun hHeld => ?_)
            clear hK K
            (try simp only [Act.put]); (try simp only [List.setIfInBounds_toArray]); (try simp only [List.set_cons_succ]); (try simp only [List.set_cons_zero])
            first | (refine wpAnyH_take (i := 1) (v := ?_) nth1 (by kernel_rfl) (by kernel_rfl) (by kernel_rfl) (fun _ _ _ h => h) (Or.inl ⟨by rfl, ?_⟩) hHeld ?_; rotate_left; focus (intro wS hSw; (have l0 := Lib.cell_of_heap (HTX.out.kept hSw) 0; have l1 := Lib.cell_of_heap (HTX.out.kept hSw) 1; have l2 := Lib.cell_of_heap (HTX.out.kept hSw) 2; have l3 := Lib.cell_of_heap (HTX.out.kept hSw) 3; have l4 := Lib.cell_of_heap (HTX.out.kept hSw) 4; have l5 := Lib.cell_of_heap (HTX.out.kept hSw) 5; have l6 := Lib.cell_of_heap (HTX.out.kept hSw) 6; have l7 := Lib.cell_of_heap (HTX.out.kept hSw) 7; have l8 := Lib.cell_of_heap (HTX.out.kept hSw) 8; have l9 := Lib.cell_of_heap (HTX.out.kept hSw) 9; obtain ⟨⟨_, _, _⟩, _⟩ := (HVX.out.kept hSw).all; have q1 := E1.out); go_simp; try with_reducible rfl; done)) | (refine wpAnyH_take (i := 1) (v := undef) nth1 (by kernel_rfl) (by kernel_rfl) (by kernel_rfl) (fun _ _ _ h => h) (Or.inr ⟨by rfl, rfl⟩) hHeld ?_)
            (try simp only [Act.put]); (try simp only [List.setIfInBounds_toArray]); (try simp only [List.set_cons_succ]); (try simp only [List.set_cons_zero])
            first | (refine wpAnyH_take (i := 2) (v := ?_) nth2 (by kernel_rfl) (by kernel_rfl) (by kernel_rfl) (fun _ _ _ h => h) (Or.inl ⟨by rfl, ?_⟩) hHeld ?_; rotate_left; focus (intro wS hSw; (have l0 := Lib.cell_of_heap (HTX.out.kept hSw) 0; have l1 := Lib.cell_of_heap (HTX.out.kept hSw) 1; have l2 := Lib.cell_of_heap (HTX.out.kept hSw) 2; have l3 := Lib.cell_of_heap (HTX.out.kept hSw) 3; have l4 := Lib.cell_of_heap (HTX.out.kept hSw) 4; have l5 := Lib.cell_of_heap (HTX.out.kept hSw) 5; have l6 := Lib.cell_of_heap (HTX.out.kept hSw) 6; have l7 := Lib.cell_of_heap (HTX.out.kept hSw) 7; have l8 := Lib.cell_of_heap (HTX.out.kept hSw) 8; have l9 := Lib.cell_of_heap (HTX.out.kept hSw) 9; obtain ⟨⟨_, _, _⟩, _⟩ := (HVX.out.kept hSw).all; have q1 := E1.out); go_simp; try with_reducible rfl; done)) | (refine wpAnyH_take (i := 2) (v := undef) nth2 (by kernel_rfl) (by kernel_rfl) (by kernel_rfl) (fun _ _ _ h => h) (Or.inr ⟨by rfl, rfl⟩) hHeld ?_)
            (try simp only [Act.put]); (try simp only [List.setIfInBounds_toArray]); (try simp only [List.set_cons_succ]); (try simp only [List.set_cons_zero])
            refine wpAnyH_ready (rs := [3]) (by kernel_rfl) (by simp) ?_
            refine AllReadyH.cons nth3 (fun K hK => ?_) AllReadyH.nil
            go_simp
            (first | (go_at_call 9; refine (awake_c _).mono ?_; rintro e w' ⟨rfl, hb⟩) | (go_at_call 18; refine (QR.out _ (HRX.out.kept hHeld)).mono ?_; rintro e w' ⟨rfl, hb⟩) | (go_at_call 19; refine (QV.out _).mono ?_; rintro e w' ⟨rfl, hb⟩) | (go_at_call 14; with_reducible refine (QE1.out _ _ (HTA.out.kept hHeld) (env1 (hp_new _ _ _) (HRX.out.kept hHeld))).mono ?_; rintro e w' ⟨rfl, hb⟩) | (go_at_call 14; with_reducible refine (QE2.out _ _ (HTA.out.kept hHeld) (env2 (hp_new _ _ _) (HRX.out.kept hHeld) (HMX.out.kept hHeld))).mono ?_; rintro e w' ⟨rfl, hb⟩))
            refine hK.out _ _ (Bel.then hHeld hb) (fun hHeld => ?_)
            clear hK K
            (try simp only [Act.put]); (try simp only [List.setIfInBounds_toArray]); (try simp only [List.set_cons_succ]); (try simp only [List.set_cons_zero])
            first | (refine wpAnyH_take (i := 4) (v := ?_) nth4 (by kernel_rfl) (by kernel_rfl) (by kernel_rfl) (fun _ _ _ h => h) (Or.inl ⟨by rfl, ?_⟩) hHeld ?_; rotate_left; focus (intro wS hSw; (have l0 := Lib.cell_of_heap (HTX.out.kept hSw) 0; have l1 := Lib.cell_of_heap (HTX.out.kept hSw) 1; have l2 := Lib.cell_of_heap (HTX.out.kept hSw) 2; have l3 := Lib.cell_of_heap (HTX.out.kept hSw) 3; have l4 := Lib.cell_of_heap (HTX.out.kept hSw) 4; have l5 := Lib.cell_of_heap (HTX.out.kept hSw) 5; have l6 := Lib.cell_of_heap (HTX.out.kept hSw) 6; have l7 := Lib.cell_of_heap (HTX.out.kept hSw) 7; have l8 := Lib.cell_of_heap (HTX.out.kept hSw) 8; have l9 := Lib.cell_of_heap (HTX.out.kept hSw) 9; obtain ⟨⟨_, _, _⟩, _⟩ := (HVX.out.kept hSw).all; have q1 := E1.out); go_simp; try with_reducible rfl; done)) | (refine wpAnyH_take (i := 4) (v := undef) nth4 (by kernel_rfl) (by kernel_rfl) (by kernel_rfl) (fun _ _ _ h => h) (Or.inr ⟨by rfl, rfl⟩) hHeld ?_)
            (try simp only [Act.put]); (try simp only [List.setIfInBounds_toArray]); (try simp only [List.set_cons_succ]); (try simp only [List.set_cons_zero])
            first | (refine wpAnyH_take (i := 5) (v := ?_) nth5 (by kernel_rfl) (by kernel_rfl) (by kernel_rfl) (fun _ _ _ h => h) (Or.inl ⟨by rfl, ?_⟩) hHeld ?_; rotate_left; focus (intro wS hSw; (have l0 := Lib.cell_of_heap (HTX.out.kept hSw) 0; have l1 := Lib.cell_of_heap (HTX.out.kept hSw) 1; have l2 := Lib.cell_of_heap (HTX.out.kept hSw) 2; have l3 := Lib.cell_of_heap (HTX.out.kept hSw) 3; have l4 := Lib.cell_of_heap (HTX.out.kept hSw) 4; have l5 := Lib.cell_of_heap (HTX.out.kept hSw) 5; have l6 := Lib.cell_of_heap (HTX.out.kept hSw) 6; have l7 := Lib.cell_of_heap (HTX.out.kept hSw) 7; have l8 := Lib.cell_of_heap (HTX.out.kept hSw) 8; have l9 := Lib.cell_of_heap (HTX.out.kept hSw) 9; obtain ⟨⟨_, _, _⟩, _⟩ := (HVX.out.kept hSw).all; have q1 := E1.out); go_simp; try with_reducible rfl; done)) | (refine wpAnyH_take (i := 5) (v := undef) nth5 (by kernel_rfl) (by kernel_rfl) (by kernel_rfl) (fun _ _ _ h => h) (Or.inr ⟨by rfl, rfl⟩) hHeld ?_)
            (try simp only [Act.put]); (try simp only [List.setIfInBounds_toArray]); (try simp only [List.set_cons_succ]); (try simp only [List.set_cons_zero])
            first | (refine wpAnyH_take (i := 6) (v := ?_) nth6 (by kernel_rfl) (by kernel_rfl) (by kernel_rfl) (fun _ _ _ h => h) (Or.inl ⟨by rfl, ?_⟩) hHeld ?_; rotate_left; focus (intro wS hSw; (have l0 := Lib.cell_of_heap (HTX.out.kept hSw) 0; have l1 := Lib.cell_of_heap (HTX.out.kept hSw) 1; have l2 := Lib.cell_of_heap (HTX.out.kept hSw) 2; have l3 := Lib.cell_of_heap (HTX.out.kept hSw) 3; have l4 := Lib.cell_of_heap (HTX.out.kept hSw) 4; have l5 := Lib.cell_of_heap (HTX.out.kept hSw) 5; have l6 := Lib.cell_of_heap (HTX.out.kept hSw) 6; have l7 := Lib.cell_of_heap (HTX.out.kept hSw) 7; have l8 := Lib.cell_of_heap (HTX.out.kept hSw) 8; have l9 := Lib.cell_of_heap (HTX.out.kept hSw) 9; obtain ⟨⟨_, _, _⟩, _⟩ := (HVX.out.kept hSw).all; have q1 := E1.out); go_simp; try with_reducible rfl; done)) | (refine wpAnyH_take (i := 6) (v := undef) nth6 (by kernel_rfl) (by kernel_rfl) (by kernel_rfl) (fun _ _ _ h => h) (Or.inr ⟨by rfl, rfl⟩) hHeld ?_)
            (try simp only [Act.put]); (try simp only [List.setIfInBounds_toArray]); (try simp only [List.set_cons_succ]); (try simp only [List.set_cons_zero])
            refine wpAnyH_ready (rs := [7]) (by kernel_rfl) (by simp) ?_
            refine AllReadyH.cons nth7 (fun K hK => ?_) AllReadyH.nil
            go_simp
            (first | (go_at_call 9; refine (awake_c _).mono ?_; rintro e w' ⟨rfl, hb⟩) | (go_at_call 18; refine (QR.out _ (HRX.out.kept hHeld)).mono ?_; rintro e w' ⟨rfl, hb⟩) | (go_at_call 19; refine (QV.out _).mono ?_; rintro e w' ⟨rfl, hb⟩) | (go_at_call 14; with_reducible refine (QE1.out _ _ (HTA.out.kept hHeld) (env1 (hp_new _ _ _) (HRX.out.kept hHeld))).mono ?_; rintro e w' ⟨rfl, hb⟩) | (go_at_call 14; with_reducible refine (QE2.out _ _ (HTA.out.kept hHeld) (env2 (hp_new _ _ _) (HRX.out.kept hHeld) (HMX.out.kept hHeld))).mono ?_; rintro e w' ⟨rfl, hb⟩))
            refine hK.out _ _ (Bel.then hHeld hb) (fun hHeld => ?_)
            clear hK K
            (try simp only [Act.put]); (try simp only [List.setIfInBounds_toArray]); (try simp only [List.set_cons_succ]); (try simp only [List.set_cons_zero])
            first | (refine wpAnyH_take (i := 8) (v := ?_) nth8 (by kernel_rfl) (by kernel_rfl) (by kernel_rfl) (fun _ _ _ h => h) (Or.inl ⟨by rfl, ?_⟩) hHeld ?_; rotate_left; focus (intro wS hSw; (have l0 := Lib.cell_of_heap (HTX.out.kept hSw) 0; have l1 := Lib.cell_of_heap (HTX.out.kept hSw) 1; have l2 := Lib.cell_of_heap (HTX.out.kept hSw) 2; have l3 := Lib.cell_of_heap (HTX.out.kept hSw) 3; have l4 := Lib.cell_of_heap (HTX.out.kept hSw) 4; have l5 := Lib.cell_of_heap (HTX.out.kept hSw) 5; have l6 := Lib.cell_of_heap (HTX.out.kept hSw) 6; have l7 := Lib.cell_of_heap (HTX.out.kept hSw) 7; have l8 := Lib.cell_of_heap (HTX.out.kept hSw) 8; have l9 := Lib.cell_of_heap (HTX.out.kept hSw) 9; obtain ⟨⟨_, _, _⟩, _⟩ := (HVX.out.kept hSw).all; have q1 := E1.out); go_simp; try with_reducible rfl; done)) | (refine wpAnyH_take (i := 8) (v := undef) nth8 (by kernel_rfl) (by kernel_rfl) (by kernel_rfl) (fun _ _ _ h => h) (Or.inr ⟨by rfl, rfl⟩) hHeld ?_)
            (try simp only [Act.put]); (try simp only [List.setIfInBounds_toArray]); (try simp only [List.set_cons_succ]); (try simp only [List.set_cons_zero])
            first | (refine wpAnyH_take (i := 9) (v := ?_) nth9 (by kernel_rfl) (by kernel_rfl) (by kernel_rfl) (fun _ _ _ h => h) (Or.inl ⟨by rfl, ?_⟩) hHeld ?_; rotate_left; focus (intro wS hSw; (have l0 := Lib.cell_of_heap (HTX.out.kept hSw) 0; have l1 := Lib.cell_of_heap (HTX.out.kept hSw) 1; have l2 := Lib.cell_of_heap (HTX.out.kept hSw) 2; have l3 := Lib.cell_of_heap (HTX.out.kept hSw) 3; have l4 := Lib.cell_of_heap (HTX.out.kept hSw) 4; have l5 := Lib.cell_of_heap (HTX.out.kept hSw) 5; have l6 := Lib.cell_of_heap (HTX.out.kept hSw) 6; have l7 := Lib.cell_of_heap (HTX.out.kept hSw) 7; have l8 := Lib.cell_of_heap (HTX.out.kept hSw) 8; have l9 := Lib.cell_of_heap (HTX.out.kept hSw) 9; obtain ⟨⟨_, _, _⟩, _⟩ := (HVX.out.kept hSw).all; have q1 := E1.out); go_simp; try with_reducible rfl; done)) | (refine wpAnyH_take (i := 9) (v := undef) nth9 (by kernel_rfl) (by kernel_rfl) (by kernel_rfl) (fun _ _ _ h => h) (Or.inr ⟨by rfl, rfl⟩) hHeld ?_)
            (try simp only [Act.put]); (try simp only [List.setIfInBounds_toArray]); (try simp only [List.set_cons_succ]); (try simp only [List.set_cons_zero])
            first | (refine wpAnyH_take (i := 10) (v := ?_) nth10 (by kernel_rfl) (by kernel_rfl) (by kernel_rfl) (fun _ _ _ h => h) (Or.inl ⟨by rfl, ?_⟩) hHeld ?_; rotate_left; focus (intro wS hSw; (have l0 := Lib.cell_of_heap (HTX.out.kept hSw) 0; have l1 := Lib.cell_of_heap (HTX.out.kept hSw) 1; have l2 := Lib.cell_of_heap (HTX.out.kept hSw) 2; have l3 := Lib.cell_of_heap (HTX.out.kept hSw) 3; have l4 := Lib.cell_of_heap (HTX.out.kept hSw) 4; have l5 := Lib.cell_of_heap (HTX.out.kept hSw) 5; have l6 := Lib.cell_of_heap (HTX.out.kept hSw) 6; have l7 := Lib.cell_of_heap (HTX.out.kept hSw) 7; have l8 := Lib.cell_of_heap (HTX.out.kept hSw) 8; have l9 := Lib.cell_of_heap (HTX.out.kept hSw) 9; obtain ⟨⟨_, _, _⟩, _⟩ := (HVX.out.kept hSw).all; have q1 := E1.out); go_simp; try with_reducible rfl; done)) | (refine wpAnyH_take (i := 10) (v := undef) nth10 (by kernel_rfl) (by kernel_rfl) (by kernel_rfl) (fun _ _ _ h => h) (Or.inr ⟨by rfl, rfl⟩) hHeld ?_)
            (try simp only [Act.put]); (try simp only [List.setIfInBounds_toArray]); (try simp only [List.set_cons_succ]); (try simp only [List.set_cons_zero])
            first | (refine wpAnyH_take (i := 11) (v := ?_) nth11 (by kernel_rfl) (by kernel_rfl) (by kernel_rfl) (fun _ _ _ h => h) (Or.inl ⟨by rfl, ?_⟩) hHeld ?_; rotate_left; focus (intro wS hSw; (have l0 := Lib.cell_of_heap (HTX.out.kept hSw) 0; have l1 := Lib.cell_of_heap (HTX.out.kept hSw) 1; have l2 := Lib.cell_of_heap (HTX.out.kept hSw) 2; have l3 := Lib.cell_of_heap (HTX.out.kept hSw) 3; have l4 := Lib.cell_of_heap (HTX.out.kept hSw) 4; have l5 := Lib.cell_of_heap (HTX.out.kept hSw) 5; have l6 := Lib.cell_of_heap (HTX.out.kept hSw) 6; have l7 := Lib.cell_of_heap (HTX.out.kept hSw) 7; have l8 := Lib.cell_of_heap (HTX.out.kept hSw) 8; have l9 := Lib.cell_of_heap (HTX.out.kept hSw) 9; obtain ⟨⟨_, _, _⟩, _⟩ := (HVX.out.kept hSw).all; have q1 := E1.out); go_simp; try with_reducible rfl; done)) | (refine wpAnyH_take (i := 11) (v := undef) nth11 (by kernel_rfl) (by kernel_rfl) (by kernel_rfl) (fun _ _ _ h => h) (Or.inr ⟨by rfl, rfl⟩) hHeld ?_)
            (try simp only [Act.put]); (try simp only [List.setIfInBounds_toArray]); (try simp only [List.set_cons_succ]); (try simp only [List.set_cons_zero])
            first | (refine wpAnyH_take (i := 12) (v := ?_) nth12 (by kernel_rfl) (by kernel_rfl) (by kernel_rfl) (fun _ _ _ h => h) (Or.inl ⟨by rfl, ?_⟩) hHeld ?_; rotate_left; focus (intro wS hSw; (have l0 := Lib.cell_of_heap (HTX.out.kept hSw) 0; have l1 := Lib.cell_of_heap (HTX.out.kept hSw) 1; have l2 := Lib.cell_of_heap (HTX.out.kept hSw) 2; have l3 := Lib.cell_of_heap (HTX.out.kept hSw) 3; have l4 := Lib.cell_of_heap (HTX.out.kept hSw) 4; have l5 := Lib.cell_of_heap (HTX.out.kept hSw) 5; have l6 := Lib.cell_of_heap (HTX.out.kept hSw) 6; have l7 := Lib.cell_of_heap (HTX.out.kept hSw) 7; have l8 := Lib.cell_of_heap (HTX.out.kept hSw) 8; have l9 := Lib.cell_of_heap (HTX.out.kept hSw) 9; obtain ⟨⟨_, _, _⟩, _⟩ := (HVX.out.kept hSw).all; have q1 := E1.out); go_simp; try with_reducible rfl; done)) | (refine wpAnyH_take (i := 12) (v := undef) nth12 (by kernel_rfl) (by kernel_rfl) (by kernel_rfl) (fun _ _ _ h => h) (Or.inr ⟨by rfl, rfl⟩) hHeld ?_)
            (try simp only [Act.put]); (try simp only [List.setIfInBounds_toArray]); (try simp only [List.set_cons_succ]); (try simp only [List.set_cons_zero])
            first | (refine wpAnyH_take (i := 15) (v := ?_) nth15 (by kernel_rfl) (by kernel_rfl) (by kernel_rfl) (fun _ _ _ h => h) (Or.inl ⟨by rfl, ?_⟩) hHeld ?_; rotate_left; focus (intro wS hSw; (have l0 := Lib.cell_of_heap (HTX.out.kept hSw) 0; have l1 := Lib.cell_of_heap (HTX.out.kept hSw) 1; have l2 := Lib.cell_of_heap (HTX.out.kept hSw) 2; have l3 := Lib.cell_of_heap (HTX.out.kept hSw) 3; have l4 := Lib.cell_of_heap (HTX.out.kept hSw) 4; have l5 := Lib.cell_of_heap (HTX.out.kept hSw) 5; have l6 := Lib.cell_of_heap (HTX.out.kept hSw) 6; have l7 := Lib.cell_of_heap (HTX.out.kept hSw) 7; have l8 := Lib.cell_of_heap (HTX.out.kept hSw) 8; have l9 := Lib.cell_of_heap (HTX.out.kept hSw) 9; obtain ⟨⟨_, _, _⟩, _⟩ := (HVX.out.kept hSw).all; have q1 := E1.out); go_simp; try with_reducible rfl; done)) | (refine wpAnyH_take (i := 15) (v := undef) nth15 (by kernel_rfl) (by kernel_rfl) (by kernel_rfl) (fun _ _ _ h => h) (Or.inr ⟨by rfl, rfl⟩) hHeld ?_)
            (try simp only [Act.put]); (try simp only [List.setIfInBounds_toArray]); (try simp only [List.set_cons_succ]); (try simp only [List.set_cons_zero])
            refine wpAnyH_ready (rs := [13]) (by kernel_rfl) (by simp) ?_
            refine AllReadyH.cons nth13 (fun K hK => ?_) AllReadyH.nil
            go_simp
            refine hK.out _ _ (Bel.alloc hHeld _) (fun hHeld => ?_)
            clear hK K
            (try simp only [Act.put]); (try simp only [List.setIfInBounds_toArray]); (try simp only [List.set_cons_succ]); (try simp only [List.set_cons_zero])
            refine wpAnyH_ready (rs := [14]) (by kernel_rfl) (by simp) ?_
            refine AllReadyH.cons nth14 (fun K hK => ?_) AllReadyH.nil
            go_simp
            (first | (go_at_call 9; refine (awake_c _).mono ?_; rintro e w' ⟨rfl, hb⟩) | (go_at_call 18; refine (QR.out _ (HRX.out.kept hHeld)).mono ?_; rintro e w' ⟨rfl, hb⟩) | (go_at_call 19; refine (QV.out _).mono ?_; rintro e w' ⟨rfl, hb⟩) | (go_at_call 14; with_reducible refine (QE1.out _ _ (HTA.out.kept hHeld) (env1 (hp_new _ _ _) (HRX.out.kept hHeld))).mono ?_; rintro e w' ⟨rfl, hb⟩) | (go_at_call 14; with_reducible refine (QE2.out _ _ (HTA.out.kept hHeld) (env2 (hp_new _ _ _) (HRX.out.kept hHeld) (HMX.out.kept hHeld))).mono ?_; rintro e w' ⟨rfl, hb⟩))
            refine hK.out _ _ (Bel.then hHeld hb) (fun hHeld => ?_)
            clear hK K
            (try simp only [Act.put]); (try simp only [List.setIfInBounds_toArray]); (try simp only [List.set_cons_succ]); (try simp only [List.set_cons_zero])
            first | (refine wpAnyH_take (i := 16) (v := ?_) nth16 (by kernel_rfl) (by kernel_rfl) (by kernel_rfl) (fun _ _ _ h => h) (Or.inl ⟨by rfl, ?_⟩) hHeld ?_; rotate_left; focus (intro wS hSw; (have l0 := Lib.cell_of_heap (HTX.out.kept hSw) 0; have l1 := Lib.cell_of_heap (HTX.out.kept hSw) 1; have l2 := Lib.cell_of_heap (HTX.out.kept hSw) 2; have l3 := Lib.cell_of_heap (HTX.out.kept hSw) 3; have l4 := Lib.cell_of_heap (HTX.out.kept hSw) 4; have l5 := Lib.cell_of_heap (HTX.out.kept hSw) 5; have l6 := Lib.cell_of_heap (HTX.out.kept hSw) 6; have l7 := Lib.cell_of_heap (HTX.out.kept hSw) 7; have l8 := Lib.cell_of_heap (HTX.out.kept hSw) 8; have l9 := Lib.cell_of_heap (HTX.out.kept hSw) 9; obtain ⟨⟨_, _, _⟩, _⟩ := (HVX.out.kept hSw).all; have q1 := E1.out); go_simp; try with_reducible rfl; done)) | (refine wpAnyH_take (i := 16) (v := undef) nth16 (by kernel_rfl) (by kernel_rfl) (by kernel_rfl) (fun _ _ _ h => h) (Or.inr ⟨by rfl, rfl⟩) hHeld ?_)
            (try simp only [Act.put]); (try simp only [List.setIfInBounds_toArray]); (try simp only [List.set_cons_succ]); (try simp only [List.set_cons_zero])
            first | (refine wpAnyH_take (i := 17) (v := ?_) nth17 (by kernel_rfl) (by kernel_rfl) (by kernel_rfl) (fun _ _ _ h => h) (Or.inl ⟨by rfl, ?_⟩) hHeld ?_; rotate_left; focus (intro wS hSw; (have l0 := Lib.cell_of_heap (HTX.out.kept hSw) 0; have l1 := Lib.cell_of_heap (HTX.out.kept hSw) 1; have l2 := Lib.cell_of_heap (HTX.out.kept hSw) 2; have l3 := Lib.cell_of_heap (HTX.out.kept hSw) 3; have l4 := Lib.cell_of_heap (HTX.out.kept hSw) 4; have l5 := Lib.cell_of_heap (HTX.out.kept hSw) 5; have l6 := Lib.cell_of_heap (HTX.out.kept hSw) 6; have l7 := Lib.cell_of_heap (HTX.out.kept hSw) 7; have l8 := Lib.cell_of_heap (HTX.out.kept hSw) 8; have l9 := Lib.cell_of_heap (HTX.out.kept hSw) 9; obtain ⟨⟨_, _, _⟩, _⟩ := (HVX.out.kept hSw).all; have q1 := E1.out); go_simp; try with_reducible rfl; done)) | (refine wpAnyH_take (i := 17) (v := undef) nth17 (by kernel_rfl) (by kernel_rfl) (by kernel_rfl) (fun _ _ _ h => h) (Or.inr ⟨by rfl, rfl⟩) hHeld ?_)
            (try simp only [Act.put]); (try simp only [List.setIfInBounds_toArray]); (try simp only [List.set_cons_succ]); (try simp only [List.set_cons_zero])
            first | (refine wpAnyH_take (i := 18) (v := ?_) nth18 (by kernel_rfl) (by kernel_rfl) (by kernel_rfl) (fun _ _ _ h => h) (Or.inl ⟨by rfl, ?_⟩) hHeld ?_; rotate_left; focus (intro wS hSw; (have l0 := Lib.cell_of_heap (HTX.out.kept hSw) 0; have l1 := Lib.cell_of_heap (HTX.out.kept hSw) 1; have l2 := Lib.cell_of_heap (HTX.out.kept hSw) 2; have l3 := Lib.cell_of_heap (HTX.out.kept hSw) 3; have l4 := Lib.cell_of_heap (HTX.out.kept hSw) 4; have l5 := Lib.cell_of_heap (HTX.out.kept hSw) 5; have l6 := Lib.cell_of_heap (HTX.out.kept hSw) 6; have l7 := Lib.cell_of_heap (HTX.out.kept hSw) 7; have l8 := Lib.cell_of_heap (HTX.out.kept hSw) 8; have l9 := Lib.cell_of_heap (HTX.out.kept hSw) 9; obtain ⟨⟨_, _, _⟩, _⟩ := (HVX.out.kept hSw).all; have q1 := E1.out); go_simp; try with_reducible rfl; done)) | (refine wpAnyH_take (i := 18) (v := undef) nth18 (by kernel_rfl) (by kernel_rfl) (by kernel_rfl) (fun _ _ _ h => h) (Or.inr ⟨by rfl, rfl⟩) hHeld ?_)
            (try simp only [Act.put]); (try simp only [List.setIfInBounds_toArray]); (try simp only [List.set_cons_succ]); (try simp only [List.set_cons_zero])
            first | (refine wpAnyH_take (i := 19) (v := ?_) nth19 (by kernel_rfl) (by kernel_rfl) (by kernel_rfl) (fun _ _ _ h => h) (Or.inl ⟨by rfl, ?_⟩) hHeld ?_; rotate_left; focus (intro wS hSw; (have l0 := Lib.cell_of_heap (HTX.out.kept hSw) 0; have l1 := Lib.cell_of_heap (HTX.out.kept hSw) 1; have l2 := Lib.cell_of_heap (HTX.out.kept hSw) 2; have l3 := Lib.cell_of_heap (HTX.out.kept hSw) 3; have l4 := Lib.cell_of_heap (HTX.out.kept hSw) 4; have l5 := Lib.cell_of_heap (HTX.out.kept hSw) 5; have l6 := Lib.cell_of_heap (HTX.out.kept hSw) 6; have l7 := Lib.cell_of_heap (HTX.out.kept hSw) 7; have l8 := Lib.cell_of_heap (HTX.out.kept hSw) 8; have l9 := Lib.cell_of_heap (HTX.out.kept hSw) 9; obtain ⟨⟨_, _, _⟩, _⟩ := (HVX.out.kept hSw).all; have q1 := E1.out); go_simp; try with_reducible rfl; done)) | (refine wpAnyH_take (i := 19) (v := undef) nth19 (by kernel_rfl) (by kernel_rfl) (by kernel_rfl) (fun _ _ _ h => h) (Or.inr ⟨by rfl, rfl⟩) hHeld ?_)
            (try simp only [Act.put]); (try simp only [List.setIfInBounds_toArray]); (try simp only [List.set_cons_succ]); (try simp only [List.set_cons_zero])
            first | (refine wpAnyH_take (i := 20) (v := ?_) nth20 (by kernel_rfl) (by kernel_rfl) (by kernel_rfl) (fun _ _ _ h => h) (Or.inl ⟨by rfl, ?_⟩) hHeld ?_; rotate_left; focus (intro wS hSw; (have l0 := Lib.cell_of_heap (HTX.out.kept hSw) 0; have l1 := Lib.cell_of_heap (HTX.out.kept hSw) 1; have l2 := Lib.cell_of_heap (HTX.out.kept hSw) 2; have l3 := Lib.cell_of_heap (HTX.out.kept hSw) 3; have l4 := Lib.cell_of_heap (HTX.out.kept hSw) 4; have l5 := Lib.cell_of_heap (HTX.out.kept hSw) 5; have l6 := Lib.cell_of_heap (HTX.out.kept hSw) 6; have l7 := Lib.cell_of_heap (HTX.out.kept hSw) 7; have l8 := Lib.cell_of_heap (HTX.out.kept hSw) 8; have l9 := Lib.cell_of_heap (HTX.out.kept hSw) 9; obtain ⟨⟨_, _, _⟩, _⟩ := (HVX.out.kept hSw).all; have q1 := E1.out); go_simp; try with_reducible rfl; done)) | (refine wpAnyH_take (i := 20) (v := undef) nth20 (by kernel_rfl) (by kernel_rfl) (by kernel_rfl) (fun _ _ _ h => h) (Or.inr ⟨by rfl, rfl⟩) hHeld ?_)
            (try simp only [Act.put]); (try simp only [List.setIfInBounds_toArray]); (try simp only [List.set_cons_succ]); (try simp only [List.set_cons_zero])
            first | (refine wpAnyH_take (i := 21) (v := ?_) nth21 (by kernel_rfl) (by kernel_rfl) (by kernel_rfl) (fun _ _ _ h => h) (Or.inl ⟨by rfl, ?_⟩) hHeld ?_; rotate_left; focus (intro wS hSw; (have l0 := Lib.cell_of_heap (HTX.out.kept hSw) 0; have l1 := Lib.cell_of_heap (HTX.out.kept hSw) 1; have l2 := Lib.cell_of_heap (HTX.out.kept hSw) 2; have l3 := Lib.cell_of_heap (HTX.out.kept hSw) 3; have l4 := Lib.cell_of_heap (HTX.out.kept hSw) 4; have l5 := Lib.cell_of_heap (HTX.out.kept hSw) 5; have l6 := Lib.cell_of_heap (HTX.out.kept hSw) 6; have l7 := Lib.cell_of_heap (HTX.out.kept hSw) 7; have l8 := Lib.cell_of_heap (HTX.out.kept hSw) 8; have l9 := Lib.cell_of_heap (HTX.out.kept hSw) 9; obtain ⟨⟨_, _, _⟩, _⟩ := (HVX.out.kept hSw).all; have q1 := E1.out); go_simp; try with_reducible rfl; done)) | (refine wpAnyH_take (i := 21) (v := undef) nth21 (by kernel_rfl) (by kernel_rfl) (by kernel_rfl) (fun _ _ _ h => h) (Or.inr ⟨by rfl, rfl⟩) hHeld ?_)
            (try simp only [Act.put]); (try simp only [List.setIfInBounds_toArray]); (try simp only [List.set_cons_succ]); (try simp only [List.set_cons_zero])
            first | (refine wpAnyH_take (i := 24) (v := ?_) nth24 (by kernel_rfl) (by kernel_rfl) (by kernel_rfl) (fun _ _ _ h => h) (Or.inl ⟨by rfl, ?_⟩) hHeld ?_; rotate_left; focus (intro wS hSw; (have l0 := Lib.cell_of_heap (HTX.out.kept hSw) 0; have l1 := Lib.cell_of_heap (HTX.out.kept hSw) 1; have l2 := Lib.cell_of_heap (HTX.out.kept hSw) 2; have l3 := Lib.cell_of_heap (HTX.out.kept hSw) 3; have l4 := Lib.cell_of_heap (HTX.out.kept hSw) 4; have l5 := Lib.cell_of_heap (HTX.out.kept hSw) 5; have l6 := Lib.cell_of_heap (HTX.out.kept hSw) 6; have l7 := Lib.cell_of_heap (HTX.out.kept hSw) 7; have l8 := Lib.cell_of_heap (HTX.out.kept hSw) 8; have l9 := Lib.cell_of_heap (HTX.out.kept hSw) 9; obtain ⟨⟨_, _, _⟩, _⟩ := (HVX.out.kept hSw).all; have q1 := E1.out); go_simp; try with_reducible rfl; done)) | (refine wpAnyH_take (i := 24) (v := undef) nth24 (by kernel_rfl) (by kernel_rfl) (by kernel_rfl) (fun _ _ _ h => h) (Or.inr ⟨by rfl, rfl⟩) hHeld ?_)
            (try simp only [Act.put]); (try simp only [List.setIfInBounds_toArray]); (try simp only [List.set_cons_succ]); (try simp only [List.set_cons_zero])
            refine wpAnyH_ready (rs := [22]) (by kernel_rfl) (by simp) ?_
            refine AllReadyH.cons nth22 (fun K hK => ?_) AllReadyH.nil
            go_simp
            refine hK.out _ _ (Bel.alloc hHeld _) (fun hHeld => ?_)
            clear hK K
            (try simp only [Act.put]); (try simp only [List.setIfInBounds_toArray]); (try simp only [List.set_cons_succ]); (try simp only [List.set_cons_zero])
            refine wpAnyH_ready (rs := [23]) (by kernel_rfl) (by simp) ?_
            refine AllReadyH.cons nth23 (fun K hK => ?_) AllReadyH.nil
            go_simp
            (first | (go_at_call 9; refine (awake_c _).mono ?_; rintro e w' ⟨rfl, hb⟩) | (go_at_call 18; refine (QR.out _ (HRX.out.kept hHeld)).mono ?_; rintro e w' ⟨rfl, hb⟩) | (go_at_call 19; refine (QV.out _).mono ?_; rintro e w' ⟨rfl, hb⟩) | (go_at_call 14; with_reducible refine (QE1.out _ _ (HTA.out.kept hHeld) (env1 (hp_new _ _ _) (HRX.out.kept hHeld))).mono ?_; rintro e w' ⟨rfl, hb⟩) | (go_at_call 14; with_reducible refine (QE2.out _ _ (HTA.out.kept hHeld) (env2 (hp_new _ _ _) (HRX.out.kept hHeld) (HMX.out.kept hHeld))).mono ?_; rintro e w' ⟨rfl, hb⟩))
            refine hK.out _ _ (Bel.then hHeld hb) (fun hHeld => ?_)
            clear hK K
            (try simp only [Act.put]); (try simp only [List.setIfInBounds_toArray]); (try simp only [List.set_cons_succ]); (try simp only [List.set_cons_zero])
            first | (refine wpAnyH_take (i := 25) (v := ?_) nth25 (by kernel_rfl) (by kernel_rfl) (by kernel_rfl) (fun _ _ _ h => h) (Or.inl ⟨by rfl, ?_⟩) hHeld ?_; rotate_left; focus (intro wS hSw; (have l0 := Lib.cell_of_heap (HTX.out.kept hSw) 0; have l1 := Lib.cell_of_heap (HTX.out.kept hSw) 1; have l2 := Lib.cell_of_heap (HTX.out.kept hSw) 2; have l3 := Lib.cell_of_heap (HTX.out.kept hSw) 3; have l4 := Lib.cell_of_heap (HTX.out.kept hSw) 4; have l5 := Lib.cell_of_heap (HTX.out.kept hSw) 5; have l6 := Lib.cell_of_heap (HTX.out.kept hSw) 6; have l7 := Lib.cell_of_heap (HTX.out.kept hSw) 7; have l8 := Lib.cell_of_heap (HTX.out.kept hSw) 8; have l9 := Lib.cell_of_heap (HTX.out.kept hSw) 9; obtain ⟨⟨_, _, _⟩, _⟩ := (HVX.out.kept hSw).all; have q1 := E1.out); go_simp; try with_reducible rfl; done)) | (refine wpAnyH_take (i := 25) (v := undef) nth25 (by kernel_rfl) (by kernel_rfl) (by kernel_rfl) (fun _ _ _ h => h) (Or.inr ⟨by rfl, rfl⟩) hHeld ?_)
            (try simp only [Act.put]); (try simp only [List.setIfInBounds_toArray]); (try simp only [List.set_cons_succ]); (try simp only [List.set_cons_zero])
            first | (refine wpAnyH_take (i := 26) (v := ?_) nth26 (by kernel_rfl) (by kernel_rfl) (by kernel_rfl) (fun _ _ _ h => h) (Or.inl ⟨by rfl, ?_⟩) hHeld ?_; rotate_left; focus (intro wS hSw; (have l0 := Lib.cell_of_heap (HTX.out.kept hSw) 0; have l1 := Lib.cell_of_heap (HTX.out.kept hSw) 1; have l2 := Lib.cell_of_heap (HTX.out.kept hSw) 2; have l3 := Lib.cell_of_heap (HTX.out.kept hSw) 3; have l4 := Lib.cell_of_heap (HTX.out.kept hSw) 4; have l5 := Lib.cell_of_heap (HTX.out.kept hSw) 5; have l6 := Lib.cell_of_heap (HTX.out.kept hSw) 6; have l7 := Lib.cell_of_heap (HTX.out.kept hSw) 7; have l8 := Lib.cell_of_heap (HTX.out.kept hSw) 8; have l9 := Lib.cell_of_heap (HTX.out.kept hSw) 9; obtain ⟨⟨_, _, _⟩, _⟩ := (HVX.out.kept hSw).all; have q1 := E1.out); go_simp; try with_reducible rfl; done)) | (refine wpAnyH_take (i := 26) (v := undef) nth26 (by kernel_rfl) (by kernel_rfl) (by kernel_rfl) (fun _ _ _ h => h) (Or.inr ⟨by rfl, rfl⟩) hHeld ?_)
            (try simp only [Act.put]); (try simp only [List.setIfInBounds_toArray]); (try simp only [List.set_cons_succ]); (try simp only [List.set_cons_zero])
            first | (refine wpAnyH_take (i := 27) (v := ?_) nth27 (by kernel_rfl) (by kernel_rfl) (by kernel_rfl) (fun _ _ _ h => h) (Or.inl ⟨by rfl, ?_⟩) hHeld ?_; rotate_left; focus (intro wS hSw; (have l0 := Lib.cell_of_heap (HTX.out.kept hSw) 0; have l1 := Lib.cell_of_heap (HTX.out.kept hSw) 1; have l2 := Lib.cell_of_heap (HTX.out.kept hSw) 2; have l3 := Lib.cell_of_heap (HTX.out.kept hSw) 3; have l4 := Lib.cell_of_heap (HTX.out.kept hSw) 4; have l5 := Lib.cell_of_heap (HTX.out.kept hSw) 5; have l6 := Lib.cell_of_heap (HTX.out.kept hSw) 6; have l7 := Lib.cell_of_heap (HTX.out.kept hSw) 7; have l8 := Lib.cell_of_heap (HTX.out.kept hSw) 8; have l9 := Lib.cell_of_heap (HTX.out.kept hSw) 9; obtain ⟨⟨_, _, _⟩, _⟩ := (HVX.out.kept hSw).all; have q1 := E1.out); go_simp; try with_reducible rfl; done)) | (refine wpAnyH_take (i := 27) (v := undef) nth27 (by kernel_rfl) (by kernel_rfl) (by kernel_rfl) (fun _ _ _ h => h) (Or.inr ⟨by rfl, rfl⟩) hHeld ?_)
            (try simp only [Act.put]); (try simp only [List.setIfInBounds_toArray]); (try simp only [List.set_cons_succ]); (try simp only [List.set_cons_zero])
            refine wpAnyH_done (by kernel_rfl) ?_ _
            go_wp2_with fail
            go_ret
            exact ⟨rfl, Bel.then HBX.out hHeld⟩
          | false =>
            rw [hall] at QR
            clear hall HRP HV QV
            go_upto_region 12 with (fail)
            refine wp_region_held_drew (S := (fun w' => Below wX.heap.size wX w')) (by kernel_rfl) ((Below.refl _ _).drew) (fun hHeld => ?_)
            refine wpAnyH_ready (rs := [0]) (by kernel_rfl) (by simp) ?_
            refine AllReadyH.cons nth0 (fun K hK => ?_) AllReadyH.nil
            go_simp
            (first | (go_at_call 9; refine (awake_c _).mono ?_; rintro e w' ⟨rfl, hb⟩) | (go_at_call 18; refine (QR.out _ (HRX.out.kept hHeld)).mono ?_; rintro e w' ⟨rfl, hb⟩) | (go_at_call 19; refine (QV.out _).mono ?_; rintro e w' ⟨rfl, hb⟩) | (go_at_call 14; with_reducible refine (QE1.out _ _ (HTA.out.kept hHeld) (env1 (hp_new _ _ _) (HRX.out.kept hHeld))).mono ?_; rintro e w' ⟨rfl, hb⟩) | (go_at_call 14; with_reducible refine (QE2.out _ _ (HTA.out.kept hHeld) (env2 (hp_new _ _ _) (HRX.out.kept hHeld) (HMX.out.kept hHeld))).mono ?_; rintro e w' ⟨rfl, hb⟩))
            refine hK.out _ _ (Bel.then hHeld hb) (fun hHeld => ?_)
            clear hK K
            (try simp only [Act.put]); (try simp only [List.setIfInBounds_toArray]); (try simp only [List.set_cons_succ]); (try simp only [List.set_cons_zero])
            first | (refine wpAnyH_take (i := 1) (v := ?_) nth1 (by kernel_rfl) (by kernel_rfl) (by kernel_rfl) (fun _ _ _ h => h) (Or.inl ⟨by rfl, ?_⟩) hHeld ?_; rotate_left; focus (intro wS hSw; (have l0 := Lib.cell_of_heap (HTX.out.kept hSw) 0; have l1 := Lib.cell_of_heap (HTX.out.kept hSw) 1; have l2 := Lib.cell_of_heap (HTX.out.kept hSw) 2; have l3 := Lib.cell_of_heap (HTX.out.kept hSw) 3; have l4 := Lib.cell_of_heap (HTX.out.kept hSw) 4; have l5 := Lib.cell_of_heap (HTX.out.kept hSw) 5; have l6 := Lib.cell_of_heap (HTX.out.kept hSw) 6; have l7 := Lib.cell_of_heap (HTX.out.kept hSw) 7; have l8 := Lib.cell_of_heap (HTX.out.kept hSw) 8; have l9 := Lib.cell_of_heap (HTX.out.kept hSw) 9; obtain ⟨⟨_, _, _⟩, _⟩ := (HVX.out.kept hSw).all; have q1 := E1.out); go_simp; try with_reducible rfl; done)) | (refine wpAnyH_take (i := 1) (v := undef) nth1 (by kernel_rfl) (by kernel_rfl) (by kernel_rfl) (fun _ _ _ h => h) (Or.inr ⟨by rfl, rfl⟩) hHeld ?_)
            (try simp only [Act.put]); (try simp only [List.setIfInBounds_toArray]); (try simp only [List.set_cons_succ]); (try simp only [List.set_cons_zero])
            first | (refine wpAnyH_take (i := 2) (v := ?_) nth2 (by kernel_rfl) (by kernel_rfl) (by kernel_rfl) (fun _ _ _ h => h) (Or.inl ⟨by rfl, ?_⟩) hHeld ?_; rotate_left; focus (intro wS hSw; (have l0 := Lib.cell_of_heap (HTX.out.kept hSw) 0; have l1 := Lib.cell_of_heap (HTX.out.kept hSw) 1; have l2 := Lib.cell_of_heap (HTX.out.kept hSw) 2; have l3 := Lib.cell_of_heap (HTX.out.kept hSw) 3; have l4 := Lib.cell_of_heap (HTX.out.kept hSw) 4; have l5 := Lib.cell_of_heap (HTX.out.kept hSw) 5; have l6 := Lib.cell_of_heap (HTX.out.kept hSw) 6; have l7 := Lib.cell_of_heap (HTX.out.kept hSw) 7; have l8 := Lib.cell_of_heap (HTX.out.kept hSw) 8; have l9 := Lib.cell_of_heap (HTX.out.kept hSw) 9; obtain ⟨⟨_, _, _⟩, _⟩ := (HVX.out.kept hSw).all; have q1 := E1.out); go_simp; try with_reducible rfl; done)) | (refine wpAnyH_take (i := 2) (v := undef) nth2 (by kernel_rfl) (by kernel_rfl) (by kernel_rfl) (fun _ _ _ h => h) (Or.inr ⟨by rfl, rfl⟩) hHeld ?_)
            (try simp only [Act.put]); (try simp only [List.setIfInBounds_toArray]); (try simp only [List.set_cons_succ]); (try simp only [List.set_cons_zero])
            refine wpAnyH_ready (rs := [3]) (by kernel_rfl) (by simp) ?_
            refine AllReadyH.cons nth3 (fun K hK => ?_) AllReadyH.nil
            go_simp
            (first | (go_at_call 9; refine (awake_c _).mono ?_; rintro e w' ⟨rfl, hb⟩) | (go_at_call 18; refine (QR.out _ (HRX.out.kept hHeld)).mono ?_; rintro e w' ⟨rfl, hb⟩) | (go_at_call 19; refine (QV.out _).mono ?_; rintro e w' ⟨rfl, hb⟩) | (go_at_call 14; with_reducible refine (QE1.out _ _ (HTA.out.kept hHeld) (env1 (hp_new _ _ _) (HRX.out.kept hHeld))).mono ?_; rintro e w' ⟨rfl, hb⟩) | (go_at_call 14; with_reducible refine (QE2.out _ _ (HTA.out.kept hHeld) (env2 (hp_new _ _ _) (HRX.out.kept hHeld) (HMX.out.kept hHeld))).mono ?_; rintro e w' ⟨rfl, hb⟩))
            refine hK.out _ _ (Bel.then hHeld hb) (fun hHeld => ?_)
            clear hK K
            (try simp only [Act.put]); (try simp only [List.setIfInBounds_toArray]); (try simp only [List.set_cons_succ]); (try simp only [List.set_cons_zero])
            first | (refine wpAnyH_take (i := 4) (v := ?_) nth4 (by kernel_rfl) (by kernel_rfl) (by kernel_rfl) (fun _ _ _ h => h) (Or.inl ⟨by rfl, ?_⟩) hHeld ?_; rotate_left; focus (intro wS hSw; (have l0 := Lib.cell_of_heap (HTX.out.kept hSw) 0; have l1 := Lib.cell_of_heap (HTX.out.kept hSw) 1; have l2 := Lib.cell_of_heap (HTX.out.kept hSw) 2; have l3 := Lib.cell_of_heap (HTX.out.kept hSw) 3; have l4 := Lib.cell_of_heap (HTX.out.kept hSw) 4; have l5 := Lib.cell_of_heap (HTX.out.kept hSw) 5; have l6 := Lib.cell_of_heap (HTX.out.kept hSw) 6; have l7 := Lib.cell_of_heap (HTX.out.kept hSw) 7; have l8 := Lib.cell_of_heap (HTX.out.kept hSw) 8; have l9 := Lib.cell_of_heap (HTX.out.kept hSw) 9; obtain ⟨⟨_, _, _⟩, _⟩ := (HVX.out.kept hSw).all; have q1 := E1.out); go_simp; try with_reducible rfl; done)) | (refine wpAnyH_take (i := 4) (v := undef) nth4 (by kernel_rfl) (by kernel_rfl) (by kernel_rfl) (fun _ _ _ h => h) (Or.inr ⟨by rfl, rfl⟩) hHeld ?_)
            (try simp only [Act.put]); (try simp only [List.setIfInBounds_toArray]); (try simp only [List.set_cons_succ]); (try simp only [List.set_cons_zero])
            first | (refine wpAnyH_take (i := 5) (v := ?_) nth5 (by kernel_rfl) (by kernel_rfl) (by kernel_rfl) (fun _ _ _ h => h) (Or.inl ⟨by rfl, ?_⟩) hHeld ?_; rotate_left; focus (intro wS hSw; (have l0 := Lib.cell_of_heap (HTX.out.kept hSw) 0; have l1 := Lib.cell_of_heap (HTX.out.kept hSw) 1; have l2 := Lib.cell_of_heap (HTX.out.kept hSw) 2; have l3 := Lib.cell_of_heap (HTX.out.kept hSw) 3; have l4 := Lib.cell_of_heap (HTX.out.kept hSw) 4; have l5 := Lib.cell_of_heap (HTX.out.kept hSw) 5; have l6 := Lib.cell_of_heap (HTX.out.kept hSw) 6; have l7 := Lib.cell_of_heap (HTX.out.kept hSw) 7; have l8 := Lib.cell_of_heap (HTX.out.kept hSw) 8; have l9 := Lib.cell_of_heap (HTX.out.kept hSw) 9; obtain ⟨⟨_, _, _⟩, _⟩ := (HVX.out.kept hSw).all; have q1 := E1.out); go_simp; try with_reducible rfl; done)) | (refine wpAnyH_take (i := 5) (v := undef) nth5 (by kernel_rfl) (by kernel_rfl) (by kernel_rfl) (fun _ _ _ h => h) (Or.inr ⟨by rfl, rfl⟩) hHeld ?_)
            (try simp only [Act.put]); (try simp only [List.setIfInBounds_toArray]); (try simp only [List.set_cons_succ]); (try simp only [List.set_cons_zero])
            first | (refine wpAnyH_take (i := 6) (v := ?_) nth6 (by kernel_rfl) (by kernel_rfl) (by kernel_rfl) (fun _ _ _ h => h) (Or.inl ⟨by rfl, ?_⟩) hHeld ?_; rotate_left; focus (intro wS hSw; (have l0 := Lib.cell_of_heap (HTX.out.kept hSw) 0; have l1 := Lib.cell_of_heap (HTX.out.kept hSw) 1; have l2 := Lib.cell_of_heap (HTX.out.kept hSw) 2; have l3 := Lib.cell_of_heap (HTX.out.kept hSw) 3; have l4 := Lib.cell_of_heap (HTX.out.kept hSw) 4; have l5 := Lib.cell_of_heap (HTX.out.kept hSw) 5; have l6 := Lib.cell_of_heap (HTX.out.kept hSw) 6; have l7 := Lib.cell_of_heap (HTX.out.kept hSw) 7; have l8 := Lib.cell_of_heap (HTX.out.kept hSw) 8; have l9 := Lib.cell_of_heap (HTX.out.kept hSw) 9; obtain ⟨⟨_, _, _⟩, _⟩ := (HVX.out.kept hSw).all; have q1 := E1.out); go_simp; try with_reducible rfl; done)) | (refine wpAnyH_take (i := 6) (v := undef) nth6 (by kernel_rfl) (by kernel_rfl) (by kernel_rfl) (fun _ _ _ h => h) (Or.inr ⟨by rfl, rfl⟩) hHeld ?_)
            (try simp only [Act.put]); (try simp only [List.setIfInBounds_toArray]); (try simp only [List.set_cons_succ]); (try simp only [List.set_cons_zero])
            first | (refine wpAnyH_take (i := 7) (v := ?_) nth7 (by kernel_rfl) (by kernel_rfl) (by kernel_rfl) (fun _ _ _ h => h) (Or.inl ⟨by rfl, ?_⟩) hHeld ?_; rotate_left; focus (intro wS hSw; (have l0 := Lib.cell_of_heap (HTX.out.kept hSw) 0; have l1 := Lib.cell_of_heap (HTX.out.kept hSw) 1; have l2 := Lib.cell_of_heap (HTX.out.kept hSw) 2; have l3 := Lib.cell_of_heap (HTX.out.kept hSw) 3; have l4 := Lib.cell_of_heap (HTX.out.kept hSw) 4; have l5 := Lib.cell_of_heap (HTX.out.kept hSw) 5; have l6 := Lib.cell_of_heap (HTX.out.kept hSw) 6; have l7 := Lib.cell_of_heap (HTX.out.kept hSw) 7; have l8 := Lib.cell_of_heap (HTX.out.kept hSw) 8; have l9 := Lib.cell_of_heap (HTX.out.kept hSw) 9; obtain ⟨⟨_, _, _⟩, _⟩ := (HVX.out.kept hSw).all; have q1 := E1.out); go_simp; try with_reducible rfl; done)) | (refine wpAnyH_take (i := 7) (v := undef) nth7 (by kernel_rfl) (by kernel_rfl) (by kernel_rfl) (fun _ _ _ h => h) (Or.inr ⟨by rfl, rfl⟩) hHeld ?_)
            (try simp only [Act.put]); (try simp only [List.setIfInBounds_toArray]); (try simp only [List.set_cons_succ]); (try simp only [List.set_cons_zero])
            first | (refine wpAnyH_take (i := 8) (v := ?_) nth8 (by kernel_rfl) (by kernel_rfl) (by kernel_rfl) (fun _ _ _ h => h) (Or.inl ⟨by rfl, ?_⟩) hHeld ?_; rotate_left; focus (intro wS hSw; (have l0 := Lib.cell_of_heap (HTX.out.kept hSw) 0; have l1 := Lib.cell_of_heap (HTX.out.kept hSw) 1; have l2 := Lib.cell_of_heap (HTX.out.kept hSw) 2; have l3 := Lib.cell_of_heap (HTX.out.kept hSw) 3; have l4 := Lib.cell_of_heap (HTX.out.kept hSw) 4; have l5 := Lib.cell_of_heap (HTX.out.kept hSw) 5; have l6 := Lib.cell_of_heap (HTX.out.kept hSw) 6; have l7 := Lib.cell_of_heap (HTX.out.kept hSw) 7; have l8 := Lib.cell_of_heap (HTX.out.kept hSw) 8; have l9 := Lib.cell_of_heap (HTX.out.kept hSw) 9; obtain ⟨⟨_, _, _⟩, _⟩ := (HVX.out.kept hSw).all; have q1 := E1.out); go_simp; try with_reducible rfl; done)) | (refine wpAnyH_take (i := 8) (v := undef) nth8 (by kernel_rfl) (by kernel_rfl) (by kernel_rfl) (fun _ _ _ h => h) (Or.inr ⟨by rfl, rfl⟩) hHeld ?_)
            (try simp only [Act.put]); (try simp only [List.setIfInBounds_toArray]); (try simp only [List.set_cons_succ]); (try simp only [List.set_cons_zero])
            first | (refine wpAnyH_take (i := 9) (v := ?_) nth9 (by kernel_rfl) (by kernel_rfl) (by kernel_rfl) (fun _ _ _ h => h) (Or.inl ⟨by rfl, ?_⟩) hHeld ?_; rotate_left; focus (intro wS hSw; (have l0 := Lib.cell_of_heap (HTX.out.kept hSw) 0; have l1 := Lib.cell_of_heap (HTX.out.kept hSw) 1; have l2 := Lib.cell_of_heap (HTX.out.kept hSw) 2; have l3 := Lib.cell_of_heap (HTX.out.kept hSw) 3; have l4 := Lib.cell_of_heap (HTX.out.kept hSw) 4; have l5 := Lib.cell_of_heap (HTX.out.kept hSw) 5; have l6 := Lib.cell_of_heap (HTX.out.kept hSw) 6; have l7 := Lib.cell_of_heap (HTX.out.kept hSw) 7; have l8 := Lib.cell_of_heap (HTX.out.kept hSw) 8; have l9 := Lib.cell_of_heap (HTX.out.kept hSw) 9; obtain ⟨⟨_, _, _⟩, _⟩ := (HVX.out.kept hSw).all; have q1 := E1.out); go_simp; try with_reducible rfl; done)) | (refine wpAnyH_take (i := 9) (v := undef) nth9 (by kernel_rfl) (by kernel_rfl) (by kernel_rfl) (fun _ _ _ h => h) (Or.inr ⟨by rfl, rfl⟩) hHeld ?_)
            (try simp only [Act.put]); (try simp only [List.setIfInBounds_toArray]); (try simp only [List.set_cons_succ]); (try simp only [List.set_cons_zero])
            first | (refine wpAnyH_take (i := 10) (v := ?_) nth10 (by kernel_rfl) (by kernel_rfl) (by kernel_rfl) (fun _ _ _ h => h) (Or.inl ⟨by rfl, ?_⟩) hHeld ?_; rotate_left; focus (intro wS hSw; (have l0 := Lib.cell_of_heap (HTX.out.kept hSw) 0; have l1 := Lib.cell_of_heap (HTX.out.kept hSw) 1; have l2 := Lib.cell_of_heap (HTX.out.kept hSw) 2; have l3 := Lib.cell_of_heap (HTX.out.kept hSw) 3; have l4 := Lib.cell_of_heap (HTX.out.kept hSw) 4; have l5 := Lib.cell_of_heap (HTX.out.kept hSw) 5; have l6 := Lib.cell_of_heap (HTX.out.kept hSw) 6; have l7 := Lib.cell_of_heap (HTX.out.kept hSw) 7; have l8 := Lib.cell_of_heap (HTX.out.kept hSw) 8; have l9 := Lib.cell_of_heap (HTX.out.kept hSw) 9; obtain ⟨⟨_, _, _⟩, _⟩ := (HVX.out.kept hSw).all; have q1 := E1.out); go_simp; try with_reducible rfl; done)) | (refine wpAnyH_take (i := 10) (v := undef) nth10 (by kernel_rfl) (by kernel_rfl) (by kernel_rfl) (fun _ _ _ h => h) (Or.inr ⟨by rfl, rfl⟩) hHeld ?_)
            (try simp only [Act.put]); (try simp only [List.setIfInBounds_toArray]); (try simp only [List.set_cons_succ]); (try simp only [List.set_cons_zero])
            first | (refine wpAnyH_take (i := 11) (v := ?_) nth11 (by kernel_rfl) (by kernel_rfl) (by kernel_rfl) (fun _ _ _ h => h) (Or.inl ⟨by rfl, ?_⟩) hHeld ?_; rotate_left; focus (intro wS hSw; (have l0 := Lib.cell_of_heap (HTX.out.kept hSw) 0; have l1 := Lib.cell_of_heap (HTX.out.kept hSw) 1; have l2 := Lib.cell_of_heap (HTX.out.kept hSw) 2; have l3 := Lib.cell_of_heap (HTX.out.kept hSw) 3; have l4 := Lib.cell_of_heap (HTX.out.kept hSw) 4; have l5 := Lib.cell_of_heap (HTX.out.kept hSw) 5; have l6 := Lib.cell_of_heap (HTX.out.kept hSw) 6; have l7 := Lib.cell_of_heap (HTX.out.kept hSw) 7; have l8 := Lib.cell_of_heap (HTX.out.kept hSw) 8; have l9 := Lib.cell_of_heap (HTX.out.kept hSw) 9; obtain ⟨⟨_, _, _⟩, _⟩ := (HVX.out.kept hSw).all; have q1 := E1.out); go_simp; try with_reducible rfl; done)) | (refine wpAnyH_take (i := 11) (v := undef) nth11 (by kernel_rfl) (by kernel_rfl) (by kernel_rfl) (fun _ _ _ h => h) (Or.inr ⟨by rfl, rfl⟩) hHeld ?_)
            (try simp only [Act.put]); (try simp only [List.setIfInBounds_toArray]); (try simp only [List.set_cons_succ]); (try simp only [List.set_cons_zero])
            first | (refine wpAnyH_take (i := 12) (v := ?_) nth12 (by kernel_rfl) (by kernel_rfl) (by kernel_rfl) (fun _ _ _ h => h) (Or.inl ⟨by rfl, ?_⟩) hHeld ?_; rotate_left; focus (intro wS hSw; (have l0 := Lib.cell_of_heap (HTX.out.kept hSw) 0; have l1 := Lib.cell_of_heap (HTX.out.kept hSw) 1; have l2 := Lib.cell_of_heap (HTX.out.kept hSw) 2; have l3 := Lib.cell_of_heap (HTX.out.kept hSw) 3; have l4 := Lib.cell_of_heap (HTX.out.kept hSw) 4; have l5 := Lib.cell_of_heap (HTX.out.kept hSw) 5; have l6 := Lib.cell_of_heap (HTX.out.kept hSw) 6; have l7 := Lib.cell_of_heap (HTX.out.kept hSw) 7; have l8 := Lib.cell_of_heap (HTX.out.kept hSw) 8; have l9 := Lib.cell_of_heap (HTX.out.kept hSw) 9; obtain ⟨⟨_, _, _⟩, _⟩ := (HVX.out.kept hSw).all; have q1 := E1.out); go_simp; try with_reducible rfl; done)) | (refine wpAnyH_take (i := 12) (v := undef) nth12 (by kernel_rfl) (by kernel_rfl) (by kernel_rfl) (fun _ _ _ h => h) (Or.inr ⟨by rfl, rfl⟩) hHeld ?_)
            (try simp only [Act.put]); (try simp only [List.setIfInBounds_toArray]); (try simp only [List.set_cons_succ]); (try simp only [List.set_cons_zero])
            first | (refine wpAnyH_take (i := 15) (v := ?_) nth15 (by kernel_rfl) (by kernel_rfl) (by kernel_rfl) (fun _ _ _ h => h) (Or.inl ⟨by rfl, ?_⟩) hHeld ?_; rotate_left; focus (intro wS hSw; (have l0 := Lib.cell_of_heap (HTX.out.kept hSw) 0; have l1 := Lib.cell_of_heap (HTX.out.kept hSw) 1; have l2 := Lib.cell_of_heap (HTX.out.kept hSw) 2; have l3 := Lib.cell_of_heap (HTX.out.kept hSw) 3; have l4 := Lib.cell_of_heap (HTX.out.kept hSw) 4; have l5 := Lib.cell_of_heap (HTX.out.kept hSw) 5; have l6 := Lib.cell_of_heap (HTX.out.kept hSw) 6; have l7 := Lib.cell_of_heap (HTX.out.kept hSw) 7; have l8 := Lib.cell_of_heap (HTX.out.kept hSw) 8; have l9 := Lib.cell_of_heap (HTX.out.kept hSw) 9; obtain ⟨⟨_, _, _⟩, _⟩ := (HVX.out.kept hSw).all; have q1 := E1.out); go_simp; try with_reducible rfl; done)) | (refine wpAnyH_take (i := 15) (v := undef) nth15 (by kernel_rfl) (by kernel_rfl) (by kernel_rfl) (fun _ _ _ h => h) (Or.inr ⟨by rfl, rfl⟩) hHeld ?_)
            (try simp only [Act.put]); (try simp only [List.setIfInBounds_toArray]); (try simp only [List.set_cons_succ]); (try simp only [List.set_cons_zero])
            refine wpAnyH_ready (rs := [13]) (by kernel_rfl) (by simp) ?_
            refine AllReadyH.cons nth13 (fun K hK => ?_) AllReadyH.nil
            go_simp
            refine hK.out _ _ (Bel.alloc hHeld _) (fun hHeld => ?_)
            clear hK K
            (try simp only [Act.put]); (try simp only [List.setIfInBounds_toArray]); (try simp only [List.set_cons_succ]); (try simp only [List.set_cons_zero])
            refine wpAnyH_ready (rs := [14]) (by kernel_rfl) (by simp) ?_
            refine AllReadyH.cons nth14 (fun K hK => ?_) AllReadyH.nil
            go_simp
            (first | (go_at_call 9; refine (awake_c _).mono ?_; rintro e w' ⟨rfl, hb⟩) | (go_at_call 18; refine (QR.out _ (HRX.out.kept hHeld)).mono ?_; rintro e w' ⟨rfl, hb⟩) | (go_at_call 19; refine (QV.out _).mono ?_; rintro e w' ⟨rfl, hb⟩) | (go_at_call 14; with_reducible refine (QE1.out _ _ (HTA.out.kept hHeld) (env1 (hp_new _ _ _) (HRX.out.kept hHeld))).mono ?_; rintro e w' ⟨rfl, hb⟩) | (go_at_call 14; with_reducible refine (QE2.out _ _ (HTA.out.kept hHeld) (env2 (hp_new _ _ _) (HRX.out.kept hHeld) (HMX.out.kept hHeld))).mono ?_; rintro e w' ⟨rfl, hb⟩))
            refine hK.out _ _ (Bel.then hHeld hb) (fun hHeld => ?_)
            clear hK K
            (try simp only [Act.put]); (try simp only [List.setIfInBounds_toArray]); (try simp only [List.set_cons_succ]); (try simp only [List.set_cons_zero])
            first | (refine wpAnyH_take (i := 16) (v := ?_) nth16 (by kernel_rfl) (by kernel_rfl) (by kernel_rfl) (fun _ _ _ h => h) (Or.inl ⟨by rfl, ?_⟩) hHeld ?_; rotate_left; focus (intro wS hSw; (have l0 := Lib.cell_of_heap (HTX.out.kept hSw) 0; have l1 := Lib.cell_of_heap (HTX.out.kept hSw) 1; have l2 := Lib.cell_of_heap (HTX.out.kept hSw) 2; have l3 := Lib.cell_of_heap (HTX.out.kept hSw) 3; have l4 := Lib.cell_of_heap (HTX.out.kept hSw) 4; have l5 := Lib.cell_of_heap (HTX.out.kept hSw) 5; have l6 := Lib.cell_of_heap (HTX.out.kept hSw) 6; have l7 := Lib.cell_of_heap (HTX.out.kept hSw) 7; have l8 := Lib.cell_of_heap (HTX.out.kept hSw) 8; have l9 := Lib.cell_of_heap (HTX.out.kept hSw) 9; obtain ⟨⟨_, _, _⟩, _⟩ := (HVX.out.kept hSw).all; have q1 := E1.out); go_simp; try with_reducible rfl; done)) | (refine wpAnyH_take (i := 16) (v := undef) nth16 (by kernel_rfl) (by kernel_rfl) (by kernel_rfl) (fun _ _ _ h => h) (Or.inr ⟨by rfl, rfl⟩) hHeld ?_)
            (try simp only [Act.put]); (try simp only [List.setIfInBounds_toArray]); (try simp only [List.set_cons_succ]); (try simp only [List.set_cons_zero])
            first | (refine wpAnyH_take (i := 17) (v := ?_) nth17 (by kernel_rfl) (by kernel_rfl) (by kernel_rfl) (fun _ _ _ h => h) (Or.inl ⟨by rfl, ?_⟩) hHeld ?_; rotate_left; focus (intro wS hSw; (have l0 := Lib.cell_of_heap (HTX.out.kept hSw) 0; have l1 := Lib.cell_of_heap (HTX.out.kept hSw) 1; have l2 := Lib.cell_of_heap (HTX.out.kept hSw) 2; have l3 := Lib.cell_of_heap (HTX.out.kept hSw) 3; have l4 := Lib.cell_of_heap (HTX.out.kept hSw) 4; have l5 := Lib.cell_of_heap (HTX.out.kept hSw) 5; have l6 := Lib.cell_of_heap (HTX.out.kept hSw) 6; have l7 := Lib.cell_of_heap (HTX.out.kept hSw) 7; have l8 := Lib.cell_of_heap (HTX.out.kept hSw) 8; have l9 := Lib.cell_of_heap (HTX.out.kept hSw) 9; obtain ⟨⟨_, _, _⟩, _⟩ := (HVX.out.kept hSw).all; have q1 := E1.out); go_simp; try with_reducible rfl; done)) | (refine wpAnyH_take (i := 17) (v := undef) nth17 (by kernel_rfl) (by kernel_rfl) (by kernel_rfl) (fun _ _ _ h => h) (Or.inr ⟨by rfl, rfl⟩) hHeld ?_)
            (try simp only [Act.put]); (try simp only [List.setIfInBounds_toArray]); (try simp only [List.set_cons_succ]); (try simp only [List.set_cons_zero])
            first | (refine wpAnyH_take (i := 18) (v := ?_) nth18 (by kernel_rfl) (by kernel_rfl) (by kernel_rfl) (fun _ _ _ h => h) (Or.inl ⟨by rfl, ?_⟩) hHeld ?_; rotate_left; focus (intro wS hSw; (have l0 := Lib.cell_of_heap (HTX.out.kept hSw) 0; have l1 := Lib.cell_of_heap (HTX.out.kept hSw) 1; have l2 := Lib.cell_of_heap (HTX.out.kept hSw) 2; have l3 := Lib.cell_of_heap (HTX.out.kept hSw) 3; have l4 := Lib.cell_of_heap (HTX.out.kept hSw) 4; have l5 := Lib.cell_of_heap (HTX.out.kept hSw) 5; have l6 := Lib.cell_of_heap (HTX.out.kept hSw) 6; have l7 := Lib.cell_of_heap (HTX.out.kept hSw) 7; have l8 := Lib.cell_of_heap (HTX.out.kept hSw) 8; have l9 := Lib.cell_of_heap (HTX.out.kept hSw) 9; obtain ⟨⟨_, _, _⟩, _⟩ := (HVX.out.kept hSw).all; have q1 := E1.out); go_simp; try with_reducible rfl; done)) | (refine wpAnyH_take (i := 18) (v := undef) nth18 (by kernel_rfl) (by kernel_rfl) (by kernel_rfl) (fun _ _ _ h => h) (Or.inr ⟨by rfl, rfl⟩) hHeld ?_)
            (try simp only [Act.put]); (try simp only [List.setIfInBounds_toArray]); (try simp only [List.set_cons_succ]); (try simp only [List.set_cons_zero])
            first | (refine wpAnyH_take (i := 19) (v := ?_) nth19 (by kernel_rfl) (by kernel_rfl) (by kernel_rfl) (fun _ _ _ h => h) (Or.inl ⟨by rfl, ?_⟩) hHeld ?_; rotate_left; focus (intro wS hSw; (have l0 := Lib.cell_of_heap (HTX.out.kept hSw) 0; have l1 := Lib.cell_of_heap (HTX.out.kept hSw) 1; have l2 := Lib.cell_of_heap (HTX.out.kept hSw) 2; have l3 := Lib.cell_of_heap (HTX.out.kept hSw) 3; have l4 := Lib.cell_of_heap (HTX.out.kept hSw) 4; have l5 := Lib.cell_of_heap (HTX.out.kept hSw) 5; have l6 := Lib.cell_of_heap (HTX.out.kept hSw) 6; have l7 := Lib.cell_of_heap (HTX.out.kept hSw) 7; have l8 := Lib.cell_of_heap (HTX.out.kept hSw) 8; have l9 := Lib.cell_of_heap (HTX.out.kept hSw) 9; obtain ⟨⟨_, _, _⟩, _⟩ := (HVX.out.kept hSw).all; have q1 := E1.out); go_simp; try with_reducible rfl; done)) | (refine wpAnyH_take (i := 19) (v := undef) nth19 (by kernel_rfl) (by kernel_rfl) (by kernel_rfl) (fun _ _ _ h => h) (Or.inr ⟨by rfl, rfl⟩) hHeld ?_)
            (try simp only [Act.put]); (try simp only [List.setIfInBounds_toArray]); (try simp only [List.set_cons_succ]); (try simp only [List.set_cons_zero])
            first | (refine wpAnyH_take (i := 20) (v := ?_) nth20 (by kernel_rfl) (by kernel_rfl) (by kernel_rfl) (fun _ _ _ h => h) (Or.inl ⟨by rfl, ?_⟩) hHeld ?_; rotate_left; focus (intro wS hSw; (have l0 := Lib.cell_of_heap (HTX.out.kept hSw) 0; have l1 := Lib.cell_of_heap (HTX.out.kept hSw) 1; have l2 := Lib.cell_of_heap (HTX.out.kept hSw) 2; have l3 := Lib.cell_of_heap (HTX.out.kept hSw) 3; have l4 := Lib.cell_of_heap (HTX.out.kept hSw) 4; have l5 := Lib.cell_of_heap (HTX.out.kept hSw) 5; have l6 := Lib.cell_of_heap (HTX.out.kept hSw) 6; have l7 := Lib.cell_of_heap (HTX.out.kept hSw) 7; have l8 := Lib.cell_of_heap (HTX.out.kept hSw) 8; have l9 := Lib.cell_of_heap (HTX.out.kept hSw) 9; obtain ⟨⟨_, _, _⟩, _⟩ := (HVX.out.kept hSw).all; have q1 := E1.out); go_simp; try with_reducible rfl; done)) | (refine wpAnyH_take (i := 20) (v := undef) nth20 (by kernel_rfl) (by kernel_rfl) (by kernel_rfl) (fun _ _ _ h => h) (Or.inr ⟨by rfl, rfl⟩) hHeld ?_)
            (try simp only [Act.put]); (try simp only [List.setIfInBounds_toArray]); (try simp only [List.set_cons_succ]); (try simp only [List.set_cons_zero])
            first | (refine wpAnyH_take (i := 21) (v := ?_) nth21 (by kernel_rfl) (by kernel_rfl) (by kernel_rfl) (fun _ _ _ h => h) (Or.inl ⟨by rfl, ?_⟩) hHeld ?_; rotate_left; focus (intro wS hSw; (have l0 := Lib.cell_of_heap (HTX.out.kept hSw) 0; have l1 := Lib.cell_of_heap (HTX.out.kept hSw) 1; have l2 := Lib.cell_of_heap (HTX.out.kept hSw) 2; have l3 := Lib.cell_of_heap (HTX.out.kept hSw) 3; have l4 := Lib.cell_of_heap (HTX.out.kept hSw) 4; have l5 := Lib.cell_of_heap (HTX.out.kept hSw) 5; have l6 := Lib.cell_of_heap (HTX.out.kept hSw) 6; have l7 := Lib.cell_of_heap (HTX.out.kept hSw) 7; have l8 := Lib.cell_of_heap (HTX.out.kept hSw) 8; have l9 := Lib.cell_of_heap (HTX.out.kept hSw) 9; obtain ⟨⟨_, _, _⟩, _⟩ := (HVX.out.kept hSw).all; have q1 := E1.out); go_simp; try with_reducible rfl; done)) | (refine wpAnyH_take (i := 21) (v := undef) nth21 (by kernel_rfl) (by kernel_rfl) (by kernel_rfl) (fun _ _ _ h => h) (Or.inr ⟨by rfl, rfl⟩) hHeld ?_)
            (try simp only [Act.put]); (try simp only [List.setIfInBounds_toArray]); (try simp only [List.set_cons_succ]); (try simp only [List.set_cons_zero])
            first | (refine wpAnyH_take (i := 24) (v := ?_) nth24 (by kernel_rfl) (by kernel_rfl) (by kernel_rfl) (fun _ _ _ h => h) (Or.inl ⟨by rfl, ?_⟩) hHeld ?_; rotate_left; focus (intro wS hSw; (have l0 := Lib.cell_of_heap (HTX.out.kept hSw) 0; have l1 := Lib.cell_of_heap (HTX.out.kept hSw) 1; have l2 := Lib.cell_of_heap (HTX.out.kept hSw) 2; have l3 := Lib.cell_of_heap (HTX.out.kept hSw) 3; have l4 := Lib.cell_of_heap (HTX.out.kept hSw) 4; have l5 := Lib.cell_of_heap (HTX.out.kept hSw) 5; have l6 := Lib.cell_of_heap (HTX.out.kept hSw) 6; have l7 := Lib.cell_of_heap (HTX.out.kept hSw) 7; have l8 := Lib.cell_of_heap (HTX.out.kept hSw) 8; have l9 := Lib.cell_of_heap (HTX.out.kept hSw) 9; obtain ⟨⟨_, _, _⟩, _⟩ := (HVX.out.kept hSw).all; have q1 := E1.out); go_simp; try with_reducible rfl; done)) | (refine wpAnyH_take (i := 24) (v := undef) nth24 (by kernel_rfl) (by kernel_rfl) (by kernel_rfl) (fun _ _ _ h => h) (Or.inr ⟨by rfl, rfl⟩) hHeld ?_)
            (try simp only [Act.put]); (try simp only [List.setIfInBounds_toArray]); (try simp only [List.set_cons_succ]); (try simp only [List.set_cons_zero])
            refine wpAnyH_ready (rs := [22]) (by kernel_rfl) (by simp) ?_
            refine AllReadyH.cons nth22 (fun K hK => ?_) AllReadyH.nil
            go_simp
            refine hK.out _ _ (Bel.alloc hHeld _) (fun hHeld => ?_)
            clear hK K
            (try simp only [Act.put]); (try simp only [List.setIfInBounds_toArray]); (try simp only [List.set_cons_succ]); (try simp only [List.set_cons_zero])
            refine wpAnyH_ready (rs := [23]) (by kernel_rfl) (by simp) ?_
            refine AllReadyH.cons nth23 (fun K hK => ?_) AllReadyH.nil
            go_simp
            (first | (go_at_call 9; refine (awake_c _).mono ?_; rintro e w' ⟨rfl, hb⟩) | (go_at_call 18; refine (QR.out _ (HRX.out.kept hHeld)).mono ?_; rintro e w' ⟨rfl, hb⟩) | (go_at_call 19; refine (QV.out _).mono ?_; rintro e w' ⟨rfl, hb⟩) | (go_at_call 14; with_reducible refine (QE1.out _ _ (HTA.out.kept hHeld) (env1 (hp_new _ _ _) (HRX.out.kept hHeld))).mono ?_; rintro e w' ⟨rfl, hb⟩) | (go_at_call 14; with_reducible refine (QE2.out _ _ (HTA.out.kept hHeld) (env2 (hp_new _ _ _) (HRX.out.kept hHeld) (HMX.out.kept hHeld))).mono ?_; rintro e w' ⟨rfl, hb⟩))
            refine hK.out _ _ (Bel.then hHeld hb) (fun hHeld => ?_)
            clear hK K
            (try simp only [Act.put]); (try simp only [List.setIfInBounds_toArray]); (try simp only [List.set_cons_succ]); (try simp only [List.set_cons_zero])
            first | (refine wpAnyH_take (i := 25) (v := ?_) nth25 (by kernel_rfl) (by kernel_rfl) (by kernel_rfl) (fun _ _ _ h => h) (Or.inl ⟨by rfl, ?_⟩) hHeld ?_; rotate_left; focus (intro wS hSw; (have l0 := Lib.cell_of_heap (HTX.out.kept hSw) 0; have l1 := Lib.cell_of_heap (HTX.out.kept hSw) 1; have l2 := Lib.cell_of_heap (HTX.out.kept hSw) 2; have l3 := Lib.cell_of_heap (HTX.out.kept hSw) 3; have l4 := Lib.cell_of_heap (HTX.out.kept hSw) 4; have l5 := Lib.cell_of_heap (HTX.out.kept hSw) 5; have l6 := Lib.cell_of_heap (HTX.out.kept hSw) 6; have l7 := Lib.cell_of_heap (HTX.out.kept hSw) 7; have l8 := Lib.cell_of_heap (HTX.out.kept hSw) 8; have l9 := Lib.cell_of_heap (HTX.out.kept hSw) 9; obtain ⟨⟨_, _, _⟩, _⟩ := (HVX.out.kept hSw).all; have q1 := E1.out); go_simp; try with_reducible rfl; done)) | (refine wpAnyH_take (i := 25) (v := undef) nth25 (by kernel_rfl) (by kernel_rfl) (by kernel_rfl) (fun _ _ _ h => h) (Or.inr ⟨by rfl, rfl⟩) hHeld ?_)
            (try simp only [Act.put]); (try simp only [List.setIfInBounds_toArray]); (try simp only [List.set_cons_succ]); (try simp only [List.set_cons_zero])
            first | (refine wpAnyH_take (i := 26) (v := ?_) nth26 (by kernel_rfl) (by kernel_rfl) (by kernel_rfl) (fun _ _ _ h => h) (Or.inl ⟨by rfl, ?_⟩) hHeld ?_; rotate_left; focus (intro wS hSw; (have l0 := Lib.cell_of_heap (HTX.out.kept hSw) 0; have l1 := Lib.cell_of_heap (HTX.out.kept hSw) 1; have l2 := Lib.cell_of_heap (HTX.out.kept hSw) 2; have l3 := Lib.cell_of_heap (HTX.out.kept hSw) 3; have l4 := Lib.cell_of_heap (HTX.out.kept hSw) 4; have l5 := Lib.cell_of_heap (HTX.out.kept hSw) 5; have l6 := Lib.cell_of_heap (HTX.out.kept hSw) 6; have l7 := Lib.cell_of_heap (HTX.out.kept hSw) 7; have l8 := Lib.cell_of_heap (HTX.out.kept hSw) 8; have l9 := Lib.cell_of_heap (HTX.out.kept hSw) 9; obtain ⟨⟨_, _, _⟩, _⟩ := (HVX.out.kept hSw).all; have q1 := E1.out); go_simp; try with_reducible rfl; done)) | (refine wpAnyH_take (i := 26) (v := undef) nth26 (by kernel_rfl) (by kernel_rfl) (by kernel_rfl) (fun _ _ _ h => h) (Or.inr ⟨by rfl, rfl⟩) hHeld ?_)
            (try simp only [Act.put]); (try simp only [List.setIfInBounds_toArray]); (try simp only [List.set_cons_succ]); (try simp only [List.set_cons_zero])
            first | (refine wpAnyH_take (i := 27) (v := ?_) nth27 (by kernel_rfl) (by kernel_rfl) (by kernel_rfl) (fun _ _ _ h => h) (Or.inl ⟨by rfl, ?_⟩) hHeld ?_; rotate_left; focus (intro wS hSw; (have l0 := Lib.cell_of_heap (HTX.out.kept hSw) 0; have l1 := Lib.cell_of_heap (HTX.out.kept hSw) 1; have l2 := Lib.cell_of_heap (HTX.out.kept hSw) 2; have l3 := Lib.cell_of_heap (HTX.out.kept hSw) 3; have l4 := Lib.cell_of_heap (HTX.out.kept hSw) 4; have l5 := Lib.cell_of_heap (HTX.out.kept hSw) 5; have l6 := Lib.cell_of_heap (HTX.out.kept hSw) 6; have l7 := Lib.cell_of_heap (HTX.out.kept hSw) 7; have l8 := Lib.cell_of_heap (HTX.out.kept hSw) 8; have l9 := Lib.cell_of_heap (HTX.out.kept hSw) 9; obtain ⟨⟨_, _, _⟩, _⟩ := (HVX.out.kept hSw).all; have q1 := E1.out); go_simp; try with_reducible rfl; done)) | (refine wpAnyH_take (i := 27) (v := undef) nth27 (by kernel_rfl) (by kernel_rfl) (by kernel_rfl) (fun _ _ _ h => h) (Or.inr ⟨by rfl, rfl⟩) hHeld ?_)
            (try simp only [Act.put]); (try simp only [List.setIfInBounds_toArray]); (try simp only [List.set_cons_succ]); (try simp only [List.set_cons_zero])
            refine wpAnyH_done (by kernel_rfl) ?_ _
            go_wp2_with fail
            go_ret
            exact ⟨rfl, Bel.then HBX.out hHeld⟩
end Go.Proofs.Ytlkeghfdpbfhbaa
