/- ScalarLists: the walk. -/
import Derived.Test.YtlkeghfdpbfhbaaScO
import Derived.Test.YtlkeghfdpbfhbaaScNb
namespace Go.Proofs.Ytlkeghfdpbfhbaa
set_option linter.unusedVariables false
open Go.ChangeShapes Go.WideShapes Go.ChangeAt Go.RowKit

theorem lval_info : (Try.prog.info? 26).map (fun i => (i.zero, i.size, i.bytes)) = some (some (.agg #[.int .i64 0, .int .i64 0, .string .empty]), 3, 32) := by kernel_rfl
theorem lstep_app {P : Program} {ops : Array Oper} {o : Oper} {a : Act} {w : World} {K : Act → World → Prop} {Q : Exit → Act → World → Prop} {E : Prop} (hgd : o.guard = none) (s x : Operand) (t : TypeId)
    (ho : o.op = .call { callee := .builtin .append, args := #[s, x], argTypes := #[t, t] })
    (base : Nat) (e : TypeId) (i : TypeInfo) (z : Value) (size bytes : Nat) (ht : P.underlying t = some (.slice e)) (hi : P.info? e = some i) (hz : i.zero = some z)
    (hsize : i.size = size) (hby : i.bytes = bytes) (hzs : z.cells.size = size) (hsz : 0 < size)
    (v : Value) (n : Nat) (xs : List Value) (hs : a.eval s = v) (hown : w.ownsRow base e size v n xs)
    (B : Nat) (A : Option Addr) (m c : Nat) (news : List Value) (hx : a.eval x = .slice A m c) (hl : news.length = m * size) (hr : Cells w B A news) (h1 : ∀ u ∈ news, u.oneCell' = true)
    (h63 : n + m ≤ maxLen) (hbytes : (n + m) * bytes ≤ 140737488355328) (hbase : base ≤ w.heap.size) (hnil : A = none → m = 0)
    (h : ∀ v' w', w'.ownsRow base e size v' (n + m) (xs ++ news) → w.grownBy w' v.ownBlock → (v'.ownBlock = v.ownBlock ∨ v'.ownBlock = some w.heap.size) → K (a.put o.dst v') w') :
    if Region.wanted o (yielded ops a.tmps) = true then Oper.wp P o a w K Q else E := by
  have hw : Region.wanted o (yielded ops a.tmps) = true := by simp [Region.wanted, hgd]
  rw [if_pos hw]
  obtain ⟨v', w', hrun, h2, h3, h4⟩ := run_app (P := P) w base t o.type e i z size bytes ht hi hz hsize hby hzs hsz v n xs hown B A m c news hl hr h1 h63 hbytes hbase hnil
  unfold Oper.wp execOp
  simp only [ho, resolve, invoke, builtin, Sem.run_bind, Sem.run_pure, Result.andThen_ok, List.map_toArray, List.map_cons, List.map_nil, hs, hx, hrun]
  exact h v' w' h2 h3 h4
theorem rw1 (a : ValV) {w : World} {g : Nat} (h : Hp w g #[.int .i64 a.kind, .int .i64 a.num, .string a.str] 26) : RowV w w.heap.size (some ⟨g, 0, none⟩) 1 1 [a] := row_blk h rfl rfl (by decide)
theorem rw2 (a b : ValV) {w : World} {g : Nat} (h : Hp w g #[.int .i64 a.kind, .int .i64 a.num, .string a.str, .int .i64 b.kind, .int .i64 b.num, .string b.str] 26) : RowV w w.heap.size (some ⟨g, 0, none⟩) 2 2 [a, b] := row_blk h rfl rfl (by decide)
theorem rw5 (a b : ValV) {w : World} {g : Nat} (h : Hp w g #[.int .i64 1, .int .i64 0, .string ByteArray.empty, .int .i64 a.kind, .int .i64 a.num, .string a.str, .int .i64 0, .int .i64 0, .string { data := #[] }, .int .i64 a.kind, .int .i64 a.num, .string a.str, .int .i64 b.kind, .int .i64 b.num, .string b.str] 26) : RowV w w.heap.size (some ⟨g, 0, none⟩) 5 5 [boolV false, a, nullV, a, b] := row_blk h rfl rfl (by decide)
theorem one_cells : ∀ (l : List ValV), ∀ u ∈ (l.map valCells).flatten, u.oneCell' = true := by
  intro l u hu
  obtain ⟨xs, hx, hux⟩ := List.mem_flatten.1 hu
  obtain ⟨v, _, rfl⟩ := List.mem_map.1 hx
  simp [valCells] at hux
  rcases hux with rfl | rfl | rfl <;> rfl
/-- What stays behind the loop: the boxes, the box of `in`, the two rows. -/
structure EnS (w : World) (a b : ValV) (go gi : Nat) (I : ValV) (T Z : List ValV) (A8 : Option Addr) (c8 : Nat) (A9 : Option Addr) (c9 : Nat) (w' : World) : Prop where
  va : VB w' w.heap.size a
  vb : VB w' (w.heap.size + 1) b
  vo : VB w' go I
  vi : VB w' gi I
  t : RowV w' w'.heap.size A8 T.length c8 T
  z : RowV w' w'.heap.size A9 Z.length c9 Z
  hb : Below w.heap.size w w'
theorem EnS.kept {w : World} {a b I : ValV} {go gi : Nat} {T Z : List ValV} {A8 A9 : Option Addr} {c8 c9 : Nat} {w' w'' : World} (h : EnS w a b go gi I T Z A8 c8 A9 c9 w') (hb : Below w'.heap.size w' w'') : EnS w a b go gi I T Z A8 c8 A9 c9 w'' :=
  ⟨h.va.kept hb, h.vb.kept hb, h.vo.kept hb, h.vi.kept hb, h.t.kept hb, h.z.kept hb, Bel.then h.hb hb⟩
/-- A block that is none of theirs. -/
structure EnF (w : World) (go gi : Nat) (A8 A9 : Option Addr) (g : Nat) : Prop where
  f1 : w.heap.size + 2 ≤ g
  f2 : g ≠ go
  f3 : g ≠ gi
  f4 : ∀ ad, A8 = some ad → ad.block ≠ g
  f5 : ∀ ad, A9 = some ad → ad.block ≠ g
theorem row_far {w : World} {A : Option Addr} {n c : Nat} {l : List ValV} (h : RowV w w.heap.size A n c l) {g : Nat} (hA : ∀ ad, A = some ad → ad.block ≠ g) (u : ValV) : RowV (setV w g u) (setV w g u).heap.size A n c l := by
  have hsz : (setV w g u).heap.size = w.heap.size := by unfold setV; simp [World.setCell]
  rw [hsz]
  refine ⟨h.len, h.cap, h.max, h.nil, ⟨h.recs.1, fun h0 => ?_⟩⟩
  obtain ⟨b, off, e, hb, hc⟩ := h.recs.2 h0
  refine ⟨b, off, e, hb, fun i x hx => ?_⟩
  have hne : b ≠ g := hA _ e
  have e2 : (setV w g u).heap[b]? = w.heap[b]? := by
    unfold setV
    simp [World.setCell, Array.getElem?_modify, Ne.symm hne]
  exact (World.cell?_of_block e2).trans (hc i x hx)
theorem EnS.fresh {w : World} {a b I : ValV} {go gi : Nat} {T Z : List ValV} {A8 A9 : Option Addr} {c8 c9 : Nat} {w' : World} (h : EnS w a b go gi I T Z A8 c8 A9 c9 w') (hT : T ≠ []) (hZ : Z ≠ []) : EnF w go gi A8 A9 w'.heap.size := by
  have hlen : ∀ l : List ValV, l ≠ [] → 0 < ((l.map valCells).flatten).length := fun l hl => by
    cases l with
    | nil => exact absurd rfl hl
    | cons x l => simp [valCells]
  refine ⟨h.vb.lt, Nat.ne_of_gt h.vo.lt, Nat.ne_of_gt h.vi.lt, fun ad e => ?_, fun ad e => ?_⟩
  · obtain ⟨b, off, e2, hb, _⟩ := h.t.recs.2 (hlen _ hT)
    rw [e] at e2
    injection e2 with e2
    rw [e2]
    exact Nat.ne_of_lt hb
  · obtain ⟨b, off, e2, hb, _⟩ := h.z.recs.2 (hlen _ hZ)
    rw [e] at e2
    injection e2 with e2
    rw [e2]
    exact Nat.ne_of_lt hb
theorem EnS.far {w : World} {a b I : ValV} {go gi : Nat} {T Z : List ValV} {A8 A9 : Option Addr} {c8 c9 : Nat} {w' : World} (h : EnS w a b go gi I T Z A8 c8 A9 c9 w') {g : Nat} (hg : EnF w go gi A8 A9 g) (u : ValV) : EnS w a b go gi I T Z A8 c8 A9 c9 (setV w' g u) := by
  have f1 := hg.f1
  exact ⟨h.va.far (by omega) u, h.vb.far (by omega) u, h.vo.far hg.f2 u, h.vi.far hg.f3 u, row_far h.t hg.f4 u, row_far h.z hg.f5 u, below_setV h.hb (by omega) u⟩
set_option maxRecDepth 100000 in
set_option maxHeartbeats 20000000 in
theorem lists_in (a b : ValV) (A : Option Addr) (n c : Nat) (l : List ValV) (hl : l.length = n) (hn : 0 < n) (hn2 : n ≤ 20) (w : World) (h : RowV w w.heap.size A n c l) : Calls Try.prog 7 #[valAgg a, .slice A n c, valAgg b] w fun e w' => e = .returned (.bool true) ∧ Below w.heap.size w w' := by
  have h4 : ¬ (20 : Int) < (n : Int) := by omega
  have h5 : ((n : Int) == 0) = false := by rw [beq_eq_false_iff_ne]; omega
  have A0 : Hid (VB ((w.alloc (vO a.kind a.num a.str)).alloc (vO b.kind b.num b.str)) w.heap.size a ∧ VB ((w.alloc (vO a.kind a.num a.str)).alloc (vO b.kind b.num b.str)) (w.heap.size + 1) b ∧ Below w.heap.size w ((w.alloc (vO a.kind a.num a.str)).alloc (vO b.kind b.num b.str))) := by
    have s1 : (w.alloc (vO a.kind a.num a.str)).heap.size = w.heap.size + 1 := World.size_alloc _ _
    refine ⟨(vb_new w _ _ _).kept (Bel.one _ _), ?_, Bel.then (Bel.one _ _) (Bel.one _ _)⟩
    rw [← s1]
    exact vb_new _ _ _ _
  have HL := hide hl
  obtain ⟨i0, hi0, hz0, hz1, hz2⟩ := info_parts lval_info
  unfold valAgg
  go_enter Try.func7, Try.ntmps7
  go_wp2_with fail
  have QB : Hid (∀ (W : World), Calls Try.prog 22 #[.bool false] W fun e w' => e = .returned (.agg #[.int .i64 1, .int .i64 0, .string ByteArray.empty]) ∧ Below W.heap.size W w') := fun W => boolv_c false W
  refine (QB.out _).mono ?_
  rintro e w1 ⟨rfl, hb⟩
  have HS0 := hide (LiS.new a b (A0.out.1.kept hb) (A0.out.2.1.kept hb) (Bel.then A0.out.2.2 hb))
  have C : VB (w1.alloc (.cells #[.int .i64 1, .int .i64 0, .string ByteArray.empty] 26)) w.heap.size a := (A0.out.1.kept hb).kept (Bel.one _ _)
  obtain ⟨⟨c0, c1, c2⟩, _⟩ := C.all
  clear hb A0 C
  go_upto_region 6 with (fail)
  (try simp only [Nat.add_assoc, Nat.reduceAdd])
  (try simp only [Nat.add_assoc, Nat.reduceAdd] at HS0)
  generalize ((w1.alloc (.cells #[.int .i64 1, .int .i64 0, .string ByteArray.empty] 26)).alloc (.cells #[.int .i64 a.kind, .int .i64 a.num, .string a.str] 26)).alloc (.cells #[] 26) = w2 at *
  clear c0 c1 c2
  generalize w1.heap.size = go at *
  go_wp2_with fail
  go_loopw [8, 9, 10] (fun u8 u9 i wr => ∃ k : Nat, k ≤ n ∧ i = .int .i64 k ∧ Hid (LiS w a b go (orTo a (l.take k)) (a :: l.reverse.take k) (whens (l.take k)) u8 u9 wr)) (fun _ _ i _ => n - (intOf i).toNat)
  case atStart => exact ⟨0, Nat.zero_le _, rfl, HS0⟩
  case round =>
    clear HS0
    obtain ⟨k, hk, rfl, HI⟩ := hrel
    by_cases hkn : k < n
    · obtain ⟨blk, off, v, rfl, hv, hc⟩ := el_at h (Nat.le_refl _) hkn
      obtain ⟨_, _, u, hA, hu, hd⟩ := el_at h (Nat.le_refl _) (show n - 1 - k < n by omega)
      simp only [Option.some.injEq, Addr.mk.injEq, and_true] at hA
      obtain ⟨rfl, rfl⟩ := hA
      have HC := hide hc
      have HD := hide hd
      have HOR := hide (or_next a hv)
      have HTU := hide (turned_next a hl hkn hu)
      have HWH := hide (whens_next hv)
      have kn : (k : Int) < (n : Int) := by omega
      have kw : IntKind.i64.wrap ((k : Int) + 1) = (k : Int) + 1 := IntWalk.i64_in _ (by omega)
      have f1 : IntKind.i64.wrap ((n : Int) - 1) = (n : Int) - 1 := IntWalk.i64_in _ (by omega)
      have f2 : IntKind.i64.wrap ((n : Int) - 1 - (k : Int)) = ((n - 1 - k : Nat) : Int) := by rw [IntWalk.i64_in _ (by omega)]; omega
      have f3 : ((n - 1 - k : Nat) : Int) < (n : Int) := by omega
      have f4 : ¬ ((n - 1 - k : Nat) : Int) < 0 := by omega
      have HTn : Hid ((a :: l.reverse.take k).length = k + 1) := by show _ = _; rw [List.length_cons, List.length_take, List.length_reverse]; omega
      have HZn : Hid ((whens (l.take k)).length = 2 * k) := by show _ = _; rw [whens_len, List.length_take]; omega
      generalize a :: l.reverse.take k = T at *
      obtain ⟨T1, hT1⟩ : ∃ T1, a :: l.reverse.take (k + 1) = T1 := ⟨_, rfl⟩
      generalize whens (l.take k) = Z at *
      obtain ⟨Z1, hZ1⟩ : ∃ Z1, whens (l.take (k + 1)) = Z1 := ⟨_, rfl⟩
      generalize orTo a (l.take k) = O at *
      obtain ⟨R, hR⟩ : ∃ R, orTo a (l.take (k + 1)) = R := ⟨_, rfl⟩
      rw [hT1] at HTU
      rw [hZ1] at HWH
      rw [hR] at HOR
      have ET := hide hT1
      have EZ := hide hZ1
      have ER1 := hide hR
      generalize n - 1 - k = j at *
      obtain ⟨X, hX⟩ : ∃ X, binV 11 a v = X := ⟨_, rfl⟩
      have QX := hide (fun A W h => apply2_c 11 (.inl ⟨by decide, by decide⟩) eS a v A 2 W h (fun h => by omega))
      rw [hX] at QX HOR
      have QO := hide (fun A W h => apply2_c 18 (.inl ⟨by decide, by decide⟩) eS O X A 2 W h (fun h => by omega))
      rw [HOR.out] at QO
      obtain ⟨N1, hN1⟩ : ∃ N1, unV 19 v = N1 := ⟨_, rfl⟩
      have QN := hide (fun A W h => apply1_c 19 (by simp) eS v A 1 W h)
      rw [hN1] at QN HWH
      obtain ⟨N2, hN2⟩ : ∃ N2, unV 4 N1 = N2 := ⟨_, rfl⟩
      have QM := hide (fun A W h => apply1_c 4 (by simp) eS N1 A 1 W h)
      rw [hN2] at QM HWH
      unfold GivesV valAgg at QX QO QN QM
      clear hX hN1 hN2 hv hu hc hd h HOR hl QB hT1 hZ1 hR
      go_upto_region 9 with (fail)
      go_cut [7] from 34 to 43 (fun p wx => p = .pointer (some ⟨go, 0, none⟩) ∧ LiS w a b go R T Z u8 u9 wx)
      case first =>
        refine wp_region_held_drew (S := fun w' => ∃ O, LiS w a b go O T Z u8 u9 w') (by kernel_rfl) ⟨_, HI.out.kept (Below.refl _ _).drew⟩ (fun hHeld => ?_)
        replace HI := hide (HI.out.kept (Below.refl wr.heap.size wr).drew)
        generalize wr.drew = wd at *
        first | (refine wpAnyH_take (i := 1) (v := ?_) nth1 (by kernel_rfl) (by kernel_rfl) (by kernel_rfl) (fun _ _ _ h => h) (Or.inl ⟨by rfl, ?_⟩) hHeld ?_; rotate_left; focus (intro wS hSw; (obtain ⟨_, hS⟩ := hSw; obtain ⟨⟨_, _, _⟩, _⟩ := hS.va.all; obtain ⟨_, _, _, _⟩ := HC.out.kept hS.hb); go_simp; try with_reducible rfl; done)) | fail
        (try simp only [Act.put]); (try simp only [List.setIfInBounds_toArray]); (try simp only [List.set_cons_succ]); (try simp only [List.set_cons_zero])
        first | (refine wpAnyH_take (i := 2) (v := ?_) nth2 (by kernel_rfl) (by kernel_rfl) (by kernel_rfl) (fun _ _ _ h => h) (Or.inl ⟨by rfl, ?_⟩) hHeld ?_; rotate_left; focus (intro wS hSw; (obtain ⟨_, hS⟩ := hSw; obtain ⟨⟨_, _, _⟩, _⟩ := hS.va.all; obtain ⟨_, _, _, _⟩ := HC.out.kept hS.hb); go_simp; try with_reducible rfl; done)) | fail
        (try simp only [Act.put]); (try simp only [List.setIfInBounds_toArray]); (try simp only [List.set_cons_succ]); (try simp only [List.set_cons_zero])
        first | (refine wpAnyH_take (i := 3) (v := ?_) nth3 (by kernel_rfl) (by kernel_rfl) (by kernel_rfl) (fun _ _ _ h => h) (Or.inl ⟨by rfl, ?_⟩) hHeld ?_; rotate_left; focus (intro wS hSw; (obtain ⟨_, hS⟩ := hSw; obtain ⟨⟨_, _, _⟩, _⟩ := hS.va.all; obtain ⟨_, _, _, _⟩ := HC.out.kept hS.hb); go_simp; try with_reducible rfl; done)) | fail
        (try simp only [Act.put]); (try simp only [List.setIfInBounds_toArray]); (try simp only [List.set_cons_succ]); (try simp only [List.set_cons_zero])
        first | (refine wpAnyH_take (i := 4) (v := ?_) nth4 (by kernel_rfl) (by kernel_rfl) (by kernel_rfl) (fun _ _ _ h => h) (Or.inl ⟨by rfl, ?_⟩) hHeld ?_; rotate_left; focus (intro wS hSw; (obtain ⟨_, hS⟩ := hSw; obtain ⟨⟨_, _, _⟩, _⟩ := hS.va.all; obtain ⟨_, _, _, _⟩ := HC.out.kept hS.hb); go_simp; try with_reducible rfl; done)) | fail
        (try simp only [Act.put]); (try simp only [List.setIfInBounds_toArray]); (try simp only [List.set_cons_succ]); (try simp only [List.set_cons_zero])
        first | (refine wpAnyH_take (i := 5) (v := ?_) nth5 (by kernel_rfl) (by kernel_rfl) (by kernel_rfl) (fun _ _ _ h => h) (Or.inl ⟨by rfl, ?_⟩) hHeld ?_; rotate_left; focus (intro wS hSw; (obtain ⟨_, hS⟩ := hSw; obtain ⟨⟨_, _, _⟩, _⟩ := hS.va.all; obtain ⟨_, _, _, _⟩ := HC.out.kept hS.hb); go_simp; try with_reducible rfl; done)) | fail
        (try simp only [Act.put]); (try simp only [List.setIfInBounds_toArray]); (try simp only [List.set_cons_succ]); (try simp only [List.set_cons_zero])
        clear hHeld
        refine wpAnyH_ready (rs := [0, 6]) (by kernel_rfl) (by simp) ?_
        refine (AllReadyH.cons nth0 (fun K hK => ?_) (AllReadyH.cons nth6 (fun K hK => ?_) AllReadyH.nil))
        · obtain ⟨⟨c0, c1, c2⟩, _⟩ := HI.out.vo.all
          go_simp
          refine hK.out _ _ ⟨_, HI.out⟩ (fun _ => ?_)
          clear hK K c0 c1 c2
          (try simp only [Act.put]); (try simp only [List.setIfInBounds_toArray]); (try simp only [List.set_cons_succ]); (try simp only [List.set_cons_zero])
          refine wpAnyH_ready (rs := [6]) (by kernel_rfl) (by simp) ?_
          refine (AllReadyH.cons nth6 (fun K hK => ?_) AllReadyH.nil)
          go_simp
          refine hK.out _ _ ⟨_, HI.out.kept (Bel.one _ _)⟩ (fun _ => ?_)
          clear hK K
          (try simp only [Act.put]); (try simp only [List.setIfInBounds_toArray]); (try simp only [List.set_cons_succ]); (try simp only [List.set_cons_zero])
          replace HI := hide (HI.out.kept (Bel.one wd (.cells #[.int .i64 a.kind, .int .i64 a.num, .string a.str, .int .i64 v.kind, .int .i64 v.num, .string v.str] 26)))
          have R6 := hide (hp_new wd #[.int .i64 a.kind, .int .i64 a.num, .string a.str, .int .i64 v.kind, .int .i64 v.num, .string v.str] 26)
          generalize wd.alloc (.cells #[.int .i64 a.kind, .int .i64 a.num, .string a.str, .int .i64 v.kind, .int .i64 v.num, .string v.str] 26) = wx2 at *
          generalize wd.heap.size = gR6 at *
          refine wpAnyH_ready (rs := [7]) (by kernel_rfl) (by simp) ?_
          refine (AllReadyH.cons nth7 (fun K hK => ?_) AllReadyH.nil)
          go_simp
          go_at_call 10
          refine (QX.out _ _ (rw2 a v R6.out)).mono ?_
          rintro e wx3 ⟨rfl, hb⟩
          refine hK.out _ _ ⟨_, HI.out.kept hb⟩ (fun _ => ?_)
          clear hK K R6
          (try simp only [Act.put]); (try simp only [List.setIfInBounds_toArray]); (try simp only [List.set_cons_succ]); (try simp only [List.set_cons_zero])
          replace HI := hide (HI.out.kept hb)
          clear hb
          refine wpAnyH_ready (rs := [8]) (by kernel_rfl) (by simp) ?_
          refine (AllReadyH.cons nth8 (fun K hK => ?_) AllReadyH.nil)
          go_simp
          refine hK.out _ _ ⟨_, HI.out.kept (Bel.one _ _)⟩ (fun _ => ?_)
          clear hK K
          (try simp only [Act.put]); (try simp only [List.setIfInBounds_toArray]); (try simp only [List.set_cons_succ]); (try simp only [List.set_cons_zero])
          replace HI := hide (HI.out.kept (Bel.one wx3 (.cells #[.int .i64 O.kind, .int .i64 O.num, .string O.str, .int .i64 X.kind, .int .i64 X.num, .string X.str] 26)))
          have R8 := hide (hp_new wx3 #[.int .i64 O.kind, .int .i64 O.num, .string O.str, .int .i64 X.kind, .int .i64 X.num, .string X.str] 26)
          generalize wx3.alloc (.cells #[.int .i64 O.kind, .int .i64 O.num, .string O.str, .int .i64 X.kind, .int .i64 X.num, .string X.str] 26) = wx4 at *
          generalize wx3.heap.size = gR8 at *
          refine wpAnyH_ready (rs := [9]) (by kernel_rfl) (by simp) ?_
          refine (AllReadyH.cons nth9 (fun K hK => ?_) AllReadyH.nil)
          go_simp
          go_at_call 10
          refine (QO.out _ _ (rw2 O X R8.out)).mono ?_
          rintro e wx5 ⟨rfl, hb⟩
          refine hK.out _ _ ⟨_, HI.out.kept hb⟩ (fun _ => ?_)
          clear hK K R8
          (try simp only [Act.put]); (try simp only [List.setIfInBounds_toArray]); (try simp only [List.set_cons_succ]); (try simp only [List.set_cons_zero])
          replace HI := hide (HI.out.kept hb)
          clear hb
          refine wpAnyH_ready (rs := [10]) (by kernel_rfl) (by simp) ?_
          refine (AllReadyH.cons nth10 (fun K hK => ?_) AllReadyH.nil)
          obtain ⟨⟨c0, c1, c2⟩, ⟨y0, y1, y2⟩⟩ := HI.out.vo.all
          have HU := hide (HI.out.set R)
          go_simp
          refine hK.out _ _ ⟨_, HU.out⟩ (fun _ => ?_)
          clear hK K c0 c1 c2 y0 y1 y2
          (try simp only [Act.put]); (try simp only [List.setIfInBounds_toArray]); (try simp only [List.set_cons_succ]); (try simp only [List.set_cons_zero])
          refine wpAnyH_done (by kernel_rfl) ?_ _
          go_wp2_with fail
          go_meet
          case rel => exact ⟨rfl, HU.out⟩
        · go_simp
          refine hK.out _ _ ⟨_, HI.out.kept (Bel.one _ _)⟩ (fun _ => ?_)
          clear hK K
          (try simp only [Act.put]); (try simp only [List.setIfInBounds_toArray]); (try simp only [List.set_cons_succ]); (try simp only [List.set_cons_zero])
          replace HI := hide (HI.out.kept (Bel.one wd (.cells #[.int .i64 a.kind, .int .i64 a.num, .string a.str, .int .i64 v.kind, .int .i64 v.num, .string v.str] 26)))
          have R6 := hide (hp_new wd #[.int .i64 a.kind, .int .i64 a.num, .string a.str, .int .i64 v.kind, .int .i64 v.num, .string v.str] 26)
          generalize wd.alloc (.cells #[.int .i64 a.kind, .int .i64 a.num, .string a.str, .int .i64 v.kind, .int .i64 v.num, .string v.str] 26) = wx7 at *
          generalize wd.heap.size = gR6 at *
          refine wpAnyH_ready (rs := [0, 7]) (by kernel_rfl) (by simp) ?_
          refine (AllReadyH.cons nth0 (fun K hK => ?_) (AllReadyH.cons nth7 (fun K hK => ?_) AllReadyH.nil))
          · obtain ⟨⟨c0, c1, c2⟩, _⟩ := HI.out.vo.all
            go_simp
            refine hK.out _ _ ⟨_, HI.out⟩ (fun _ => ?_)
            clear hK K c0 c1 c2
            (try simp only [Act.put]); (try simp only [List.setIfInBounds_toArray]); (try simp only [List.set_cons_succ]); (try simp only [List.set_cons_zero])
            refine wpAnyH_ready (rs := [7]) (by kernel_rfl) (by simp) ?_
            refine (AllReadyH.cons nth7 (fun K hK => ?_) AllReadyH.nil)
            go_simp
            go_at_call 10
            refine (QX.out _ _ (rw2 a v R6.out)).mono ?_
            rintro e wx9 ⟨rfl, hb⟩
            refine hK.out _ _ ⟨_, HI.out.kept hb⟩ (fun _ => ?_)
            clear hK K R6
            (try simp only [Act.put]); (try simp only [List.setIfInBounds_toArray]); (try simp only [List.set_cons_succ]); (try simp only [List.set_cons_zero])
            replace HI := hide (HI.out.kept hb)
            clear hb
            refine wpAnyH_ready (rs := [8]) (by kernel_rfl) (by simp) ?_
            refine (AllReadyH.cons nth8 (fun K hK => ?_) AllReadyH.nil)
            go_simp
            refine hK.out _ _ ⟨_, HI.out.kept (Bel.one _ _)⟩ (fun _ => ?_)
            clear hK K
            (try simp only [Act.put]); (try simp only [List.setIfInBounds_toArray]); (try simp only [List.set_cons_succ]); (try simp only [List.set_cons_zero])
            replace HI := hide (HI.out.kept (Bel.one wx9 (.cells #[.int .i64 O.kind, .int .i64 O.num, .string O.str, .int .i64 X.kind, .int .i64 X.num, .string X.str] 26)))
            have R8 := hide (hp_new wx9 #[.int .i64 O.kind, .int .i64 O.num, .string O.str, .int .i64 X.kind, .int .i64 X.num, .string X.str] 26)
            generalize wx9.alloc (.cells #[.int .i64 O.kind, .int .i64 O.num, .string O.str, .int .i64 X.kind, .int .i64 X.num, .string X.str] 26) = wx10 at *
            generalize wx9.heap.size = gR8 at *
            refine wpAnyH_ready (rs := [9]) (by kernel_rfl) (by simp) ?_
            refine (AllReadyH.cons nth9 (fun K hK => ?_) AllReadyH.nil)
            go_simp
            go_at_call 10
            refine (QO.out _ _ (rw2 O X R8.out)).mono ?_
            rintro e wx11 ⟨rfl, hb⟩
            refine hK.out _ _ ⟨_, HI.out.kept hb⟩ (fun _ => ?_)
            clear hK K R8
            (try simp only [Act.put]); (try simp only [List.setIfInBounds_toArray]); (try simp only [List.set_cons_succ]); (try simp only [List.set_cons_zero])
            replace HI := hide (HI.out.kept hb)
            clear hb
            refine wpAnyH_ready (rs := [10]) (by kernel_rfl) (by simp) ?_
            refine (AllReadyH.cons nth10 (fun K hK => ?_) AllReadyH.nil)
            obtain ⟨⟨c0, c1, c2⟩, ⟨y0, y1, y2⟩⟩ := HI.out.vo.all
            have HU := hide (HI.out.set R)
            go_simp
            refine hK.out _ _ ⟨_, HU.out⟩ (fun _ => ?_)
            clear hK K c0 c1 c2 y0 y1 y2
            (try simp only [Act.put]); (try simp only [List.setIfInBounds_toArray]); (try simp only [List.set_cons_succ]); (try simp only [List.set_cons_zero])
            refine wpAnyH_done (by kernel_rfl) ?_ _
            go_wp2_with fail
            go_meet
            case rel => exact ⟨rfl, HU.out⟩
          · go_simp
            go_at_call 10
            refine (QX.out _ _ (rw2 a v R6.out)).mono ?_
            rintro e wx13 ⟨rfl, hb⟩
            refine hK.out _ _ ⟨_, HI.out.kept hb⟩ (fun _ => ?_)
            clear hK K R6
            (try simp only [Act.put]); (try simp only [List.setIfInBounds_toArray]); (try simp only [List.set_cons_succ]); (try simp only [List.set_cons_zero])
            replace HI := hide (HI.out.kept hb)
            clear hb
            refine wpAnyH_ready (rs := [0]) (by kernel_rfl) (by simp) ?_
            refine (AllReadyH.cons nth0 (fun K hK => ?_) AllReadyH.nil)
            obtain ⟨⟨c0, c1, c2⟩, _⟩ := HI.out.vo.all
            go_simp
            refine hK.out _ _ ⟨_, HI.out⟩ (fun _ => ?_)
            clear hK K c0 c1 c2
            (try simp only [Act.put]); (try simp only [List.setIfInBounds_toArray]); (try simp only [List.set_cons_succ]); (try simp only [List.set_cons_zero])
            refine wpAnyH_ready (rs := [8]) (by kernel_rfl) (by simp) ?_
            refine (AllReadyH.cons nth8 (fun K hK => ?_) AllReadyH.nil)
            go_simp
            refine hK.out _ _ ⟨_, HI.out.kept (Bel.one _ _)⟩ (fun _ => ?_)
            clear hK K
            (try simp only [Act.put]); (try simp only [List.setIfInBounds_toArray]); (try simp only [List.set_cons_succ]); (try simp only [List.set_cons_zero])
            replace HI := hide (HI.out.kept (Bel.one wx13 (.cells #[.int .i64 O.kind, .int .i64 O.num, .string O.str, .int .i64 X.kind, .int .i64 X.num, .string X.str] 26)))
            have R8 := hide (hp_new wx13 #[.int .i64 O.kind, .int .i64 O.num, .string O.str, .int .i64 X.kind, .int .i64 X.num, .string X.str] 26)
            generalize wx13.alloc (.cells #[.int .i64 O.kind, .int .i64 O.num, .string O.str, .int .i64 X.kind, .int .i64 X.num, .string X.str] 26) = wx15 at *
            generalize wx13.heap.size = gR8 at *
            refine wpAnyH_ready (rs := [9]) (by kernel_rfl) (by simp) ?_
            refine (AllReadyH.cons nth9 (fun K hK => ?_) AllReadyH.nil)
            go_simp
            go_at_call 10
            refine (QO.out _ _ (rw2 O X R8.out)).mono ?_
            rintro e wx16 ⟨rfl, hb⟩
            refine hK.out _ _ ⟨_, HI.out.kept hb⟩ (fun _ => ?_)
            clear hK K R8
            (try simp only [Act.put]); (try simp only [List.setIfInBounds_toArray]); (try simp only [List.set_cons_succ]); (try simp only [List.set_cons_zero])
            replace HI := hide (HI.out.kept hb)
            clear hb
            refine wpAnyH_ready (rs := [10]) (by kernel_rfl) (by simp) ?_
            refine (AllReadyH.cons nth10 (fun K hK => ?_) AllReadyH.nil)
            obtain ⟨⟨c0, c1, c2⟩, ⟨y0, y1, y2⟩⟩ := HI.out.vo.all
            have HU := hide (HI.out.set R)
            go_simp
            refine hK.out _ _ ⟨_, HU.out⟩ (fun _ => ?_)
            clear hK K c0 c1 c2 y0 y1 y2
            (try simp only [Act.put]); (try simp only [List.setIfInBounds_toArray]); (try simp only [List.set_cons_succ]); (try simp only [List.set_cons_zero])
            refine wpAnyH_done (by kernel_rfl) ?_ _
            go_wp2_with fail
            go_meet
            case rel => exact ⟨rfl, HU.out⟩
      case rest =>
        clear HI QX QO
        obtain ⟨rfl, hI⟩ := hcut
        have HI0 := hide hI
        clear hI
        obtain ⟨_, d0, d1, d2⟩ := HD.out.kept HI0.out.hb
        have HI1 := hide (HI0.out.kept (Bel.one wc (.cells #[.int .i64 u.kind, .int .i64 u.num, .string u.str] 26)))
        have HLT := hide (show Cells (wc.alloc (.cells #[.int .i64 u.kind, .int .i64 u.num, .string u.str] 26)) (wc.heap.size + 1) (some ⟨wc.heap.size, 0, none⟩) (valCells u) from cells_lit wc _ _)
        clear HI0
        go_upto_region 11 with (at_builtin; refine wpList_app rfl (.tmp 44) (.tmp 53) 22 rfl (go + 1) 26 i0 _ 3 32 Try.underlying22 hi0 hz0 hz1 hz2 rfl (by omega) u8 T.length (T.map valCells).flatten rfl HI1.out.t _ (some ⟨wc.heap.size, 0, none⟩) 1 1 (valCells u) rfl rfl HLT.out (by simp [valCells, Value.oneCell']) (by rw [HTn.out]; simp only [maxLen]; omega) (by rw [HTn.out]; omega) HI1.out.vo.lt (by simp) ?_; intro v8 w8 hown hg hat)
        have HI2 := hide (HI1.out.app8 (news := [u]) (by simpa using hown) hg hat)
        rw [HTU.out] at HI2
        clear hown hg hat HI1 HLT d0 d1 d2 HD f2 f3 f4
        obtain ⟨_, e0, e1, e2⟩ := HC.out.kept HI2.out.hb
        have HB1 := hide (Bel.one w8 (.cells #[.int .i64 v.kind, .int .i64 v.num, .string v.str] 26))
        go_wp2_with fail
        refine (QN.out _ _ (rw1 v (hp_new _ _ _))).mono ?_
        rintro e w9 ⟨rfl, hb⟩
        have HI3 := hide (HI2.out.kept (Bel.then HB1.out hb))
        clear hb HB1 e0 e1 e2 HI2
        have HB1 := hide (Bel.one w9 (.cells #[.int .i64 N1.kind, .int .i64 N1.num, .string N1.str] 26))
        go_wp2_with fail
        refine (QM.out _ _ (rw1 N1 (hp_new _ _ _))).mono ?_
        rintro e w10 ⟨rfl, hb⟩
        have HI4 := hide (HI3.out.kept (Bel.then HB1.out hb))
        clear hb HB1 HI3
        have HI5 := hide (HI4.out.kept (Bel.one w10 (.cells #[.int .i64 N2.kind, .int .i64 N2.num, .string N2.str] 26)))
        have HV : Hid (VB (w10.alloc (.cells #[.int .i64 N2.kind, .int .i64 N2.num, .string N2.str] 26)) w10.heap.size N2) := vb_new w10 _ _ _
        have HNE : Hid (∀ q, u9.ownBlock = some q → q ≠ w10.heap.size) := fun q hq => Nat.ne_of_lt (HI4.out.s.lt q hq).2
        obtain ⟨⟨c0, c1, c2⟩, ⟨y0, y1, y2⟩⟩ := (vb_one w10).all
        go_upto_region 12 with (fail)
        clear c0 c1 c2 y0 y1 y2 HI4
        generalize w10.alloc (.cells #[.int .i64 N2.kind, .int .i64 N2.num, .string N2.str] 26) = w11 at *
        generalize w10.heap.size = gb at *
        refine wp_region_held_drew (S := fun w' => VB w' gb N2 ∧ Below w.heap.size w w') (by kernel_rfl) ⟨HV.out.kept (Below.refl _ _).drew, HI5.out.hb.drew⟩ (fun hHeld => ?_)
        replace HI5 := hide (HI5.out.kept (Below.refl w11.heap.size w11).drew)
        replace HV := hide (HV.out.kept (Below.refl w11.heap.size w11).drew)
        generalize w11.drew = wd at *
        first | (refine wpAnyH_take (i := 0) (v := ?_) nth0 (by kernel_rfl) (by kernel_rfl) (by kernel_rfl) (fun _ _ _ h => h) (Or.inl ⟨by rfl, ?_⟩) hHeld ?_; rotate_left; focus (intro wS hSw; (obtain ⟨⟨_, _, _⟩, _⟩ := hSw.1.all; obtain ⟨_, _, _, _⟩ := HC.out.kept hSw.2); go_simp; try with_reducible rfl; done)) | fail
        (try simp only [Act.put]); (try simp only [List.setIfInBounds_toArray]); (try simp only [List.set_cons_succ]); (try simp only [List.set_cons_zero])
        first | (refine wpAnyH_take (i := 1) (v := ?_) nth1 (by kernel_rfl) (by kernel_rfl) (by kernel_rfl) (fun _ _ _ h => h) (Or.inl ⟨by rfl, ?_⟩) hHeld ?_; rotate_left; focus (intro wS hSw; (obtain ⟨⟨_, _, _⟩, _⟩ := hSw.1.all; obtain ⟨_, _, _, _⟩ := HC.out.kept hSw.2); go_simp; try with_reducible rfl; done)) | fail
        (try simp only [Act.put]); (try simp only [List.setIfInBounds_toArray]); (try simp only [List.set_cons_succ]); (try simp only [List.set_cons_zero])
        first | (refine wpAnyH_take (i := 2) (v := ?_) nth2 (by kernel_rfl) (by kernel_rfl) (by kernel_rfl) (fun _ _ _ h => h) (Or.inl ⟨by rfl, ?_⟩) hHeld ?_; rotate_left; focus (intro wS hSw; (obtain ⟨⟨_, _, _⟩, _⟩ := hSw.1.all; obtain ⟨_, _, _, _⟩ := HC.out.kept hSw.2); go_simp; try with_reducible rfl; done)) | fail
        (try simp only [Act.put]); (try simp only [List.setIfInBounds_toArray]); (try simp only [List.set_cons_succ]); (try simp only [List.set_cons_zero])
        first | (refine wpAnyH_take (i := 3) (v := ?_) nth3 (by kernel_rfl) (by kernel_rfl) (by kernel_rfl) (fun _ _ _ h => h) (Or.inl ⟨by rfl, ?_⟩) hHeld ?_; rotate_left; focus (intro wS hSw; (obtain ⟨⟨_, _, _⟩, _⟩ := hSw.1.all; obtain ⟨_, _, _, _⟩ := HC.out.kept hSw.2); go_simp; try with_reducible rfl; done)) | fail
        (try simp only [Act.put]); (try simp only [List.setIfInBounds_toArray]); (try simp only [List.set_cons_succ]); (try simp only [List.set_cons_zero])
        first | (refine wpAnyH_take (i := 4) (v := ?_) nth4 (by kernel_rfl) (by kernel_rfl) (by kernel_rfl) (fun _ _ _ h => h) (Or.inl ⟨by rfl, ?_⟩) hHeld ?_; rotate_left; focus (intro wS hSw; (obtain ⟨⟨_, _, _⟩, _⟩ := hSw.1.all; obtain ⟨_, _, _, _⟩ := HC.out.kept hSw.2); go_simp; try with_reducible rfl; done)) | fail
        (try simp only [Act.put]); (try simp only [List.setIfInBounds_toArray]); (try simp only [List.set_cons_succ]); (try simp only [List.set_cons_zero])
        first | (refine wpAnyH_take (i := 5) (v := ?_) nth5 (by kernel_rfl) (by kernel_rfl) (by kernel_rfl) (fun _ _ _ h => h) (Or.inl ⟨by rfl, ?_⟩) hHeld ?_; rotate_left; focus (intro wS hSw; (obtain ⟨⟨_, _, _⟩, _⟩ := hSw.1.all; obtain ⟨_, _, _, _⟩ := HC.out.kept hSw.2); go_simp; try with_reducible rfl; done)) | fail
        (try simp only [Act.put]); (try simp only [List.setIfInBounds_toArray]); (try simp only [List.set_cons_succ]); (try simp only [List.set_cons_zero])
        refine wpAnyH_ready (rs := [6]) (by kernel_rfl) (by simp) ?_
        refine AllReadyH.cons nth6 (fun K hK => ?_) AllReadyH.nil
        go_simp
        refine hK.out _ _ ⟨hHeld.1.kept (Bel.one _ _), Bel.alloc hHeld.2 _⟩ (fun hHeld => ?_)
        clear hK K
        (try simp only [Act.put]); (try simp only [List.setIfInBounds_toArray]); (try simp only [List.set_cons_succ]); (try simp only [List.set_cons_zero])
        replace HI5 := hide (HI5.out.kept (Bel.one wd (.cells #[.int .i64 N2.kind, .int .i64 N2.num, .string N2.str, .int .i64 v.kind, .int .i64 v.num, .string v.str] 26)))
        replace HV := hide (HV.out.kept (Bel.one wd (.cells #[.int .i64 N2.kind, .int .i64 N2.num, .string N2.str, .int .i64 v.kind, .int .i64 v.num, .string v.str] 26)))
        have HLT := hide (show Cells (wd.alloc (.cells #[.int .i64 N2.kind, .int .i64 N2.num, .string N2.str, .int .i64 v.kind, .int .i64 v.num, .string v.str] 26)) (wd.heap.size + 1) (some ⟨wd.heap.size, 0, none⟩) (valCells N2 ++ valCells v) from cells_lit wd _ _)
        generalize wd.alloc (.cells #[.int .i64 N2.kind, .int .i64 N2.num, .string N2.str, .int .i64 v.kind, .int .i64 v.num, .string v.str] 26) = we at *
        refine wpAnyH_ready (rs := [7]) (by kernel_rfl) (by simp) ?_
        refine AllReadyH.cons nth7 (fun K hK => ?_) AllReadyH.nil
        refine lstep_app rfl (.tmp 63) (.tmp 69) 22 rfl (go + 1) 26 i0 _ 3 32 Try.underlying22 hi0 hz0 hz1 hz2 rfl (by omega) u9 Z.length (Z.map valCells).flatten rfl HI5.out.s _ (some ⟨wd.heap.size, 0, none⟩) 2 2 (valCells N2 ++ valCells v) rfl rfl HLT.out (by simp [valCells, Value.oneCell']) (by rw [HZn.out]; simp only [maxLen]; omega) (by rw [HZn.out]; omega) HI5.out.vo.lt (by simp) ?_
        intro v9 w13 hown hg hat
        have HI7 := hide (HI5.out.app9 (news := [N2, v]) (by simpa using hown) hg hat)
        rw [HWH.out] at HI7
        have HV7 : Hid (VB w13 gb N2) := (hg.block gb HV.out.lt (fun e => HNE.out gb (by first | exact e | exact e.symm) rfl)).trans HV.out
        refine hK.out _ _ ⟨HV7.out, HI7.out.hb⟩ (fun hHeld => ?_)
        clear hK K hown hg hat HI5 HV HLT
        (try simp only [Act.put]); (try simp only [List.setIfInBounds_toArray]); (try simp only [List.set_cons_succ]); (try simp only [List.set_cons_zero])
        first | (refine wpAnyH_take (i := 8) (v := ?_) nth8 (by kernel_rfl) (by kernel_rfl) (by kernel_rfl) (fun _ _ _ h => h) (Or.inl ⟨by rfl, ?_⟩) hHeld ?_; rotate_left; focus (intro wS hSw; go_simp; try with_reducible rfl; done)) | fail
        (try simp only [Act.put]); (try simp only [List.setIfInBounds_toArray]); (try simp only [List.set_cons_succ]); (try simp only [List.set_cons_zero])
        refine wpAnyH_done (by kernel_rfl) ?_ _
        clear hHeld HV7 HNE
        go_wp2_with fail
        go_roundw
        case rel => exact ⟨k + 1, by omega, by go_num, by rw [ET.out, EZ.out, ER1.out]; exact HI7⟩
        case measure => simp [intOf]; omega
    · have hlti : ¬ (k : Int) < n := by omega
      obtain rfl : k = n := by omega
      have e1 : orTo a (l.take k) = inV a l := end_or a hl
      have e2 : l.reverse.take k = l.reverse := List.take_of_length_le (by rw [List.length_reverse]; omega)
      have e3 : l.take k = l := List.take_of_length_le (by omega)
      rw [e1, e2, e3] at HI
      have hne : l ≠ [] := fun e => by rw [e] at hl; simp only [List.length_nil] at hl; omega
      have HTne : Hid ((a :: l.reverse) ≠ []) := by show _ ≠ _; simp
      have HZne : Hid (whens l ≠ []) := fun e => by have := whens_len l; rw [e] at this; simp only [List.length_nil] at this; omega
      have hZ2 : 2 ≤ (whens l).length := by rw [whens_len]; omega
      have hTr : inV a l.reverse = inV a l := inV_reverse a l
      have hCh : chooseV (whens l) = coalV l := choose_whens l
      have hrne : l.reverse ≠ [] := fun e => hne (by rw [← List.reverse_reverse l, e]; rfl)
      obtain ⟨A8, c8, rfl, hr8⟩ := sl_of_own HI.out.t (fun _ => rfl)
      obtain ⟨A9, c9, rfl, hr9⟩ := sl_of_own HI.out.s (fun _ => rfl)
      have QIn := hide (fun A m c W h => applyIn_c eS a l A m c W h hne)
      have QTr := hide (fun W h => applyIn_c eS a l.reverse A8 (a :: l.reverse).length c8 W h hrne)
      have QWh := hide (fun W h => applyCase_c eS (whens l) A9 (whens l).length c9 W h hZ2)
      have QCo := hide (fun W h => applyCo_c l A k c W h)
      have QL := hide (fun A W h => applyCase_c eS [boolV false, a, nullV, a, b] A 5 5 W h (by omega))
      rw [hTr] at QTr
      rw [hCh] at QWh
      have HR8 := hide hr8
      have HR9 := hide hr9
      have H := hide h
      obtain ⟨I, hI⟩ : ∃ I, inV a l = I := ⟨_, rfl⟩
      rw [hI] at HI QIn QTr
      obtain ⟨CO, hCO⟩ : ∃ CO, coalV l = CO := ⟨_, rfl⟩
      rw [hCO] at QWh QCo
      have EI := hide (valEq_same I.kind I.num I.str)
      have EB := hide (valEq_same b.kind b.num b.str)
      have EC := hide (valEq_same CO.kind CO.num CO.str)
      have hlast : chooseV [boolV false, a, nullV, a, b] = b := rfl
      rw [hlast] at QL
      unfold GivesV valAgg at QIn QTr QWh QCo QL
      clear hr8 hr9 h hI hCO hTr hCh hZ2 hrne hne e1 e2 e3 hlast
      generalize a :: l.reverse = T at *
      generalize whens l = Z at *
      have HNIL := hide H.out.nil
      have HB0 := hide HI.out.hb
      have HRW := hide ((H.out.kept HB0.out).kept (Bel.one wr (.cells #[.int .i64 a.kind, .int .i64 a.num, .string a.str] 26)))
      obtain ⟨⟨c0, c1, c2⟩, _⟩ := HI.out.va.all
      have hml : ((l.map valCells).flatten).length = k * 3 := by rw [flat_len _ 3 HRW.out.recs.1, List.length_map, hl]
      go_upto_region 14 with (at_builtin; refine wpList_app rfl (.tmp 72) (.tmp 73) 22 rfl wr.heap.size 26 i0 _ 3 32 Try.underlying22 hi0 hz0 hz1 hz2 rfl (by omega) _ 1 _ rfl (World.ownsRow_lit _ _ 1 (Nat.le_refl _) (by simp only [maxLen]; omega) rfl) _ A k c ((l.map valCells).flatten) rfl hml HRW.out.recs.2 (one_cells l) (by simp only [maxLen]; omega) (by omega) (Bel.one wr (.cells #[.int .i64 a.kind, .int .i64 a.num, .string a.str] 26)).size HNIL.out ?_; intro v12 w12 hown hg hat)
      clear c0 c1 c2
      have hb12 : Below wr.heap.size wr w12 := (Bel.one wr (.cells #[.int .i64 a.kind, .int .i64 a.num, .string a.str] 26)).grown hg (Bel.one wr (.cells #[.int .i64 a.kind, .int .i64 a.num, .string a.str] 26)).size (own_new _ _ _ _ (Nat.le_refl _))
      have hown2 : w12.ownsRow wr.heap.size 26 3 v12 (a :: l).length (((a :: l).map valCells).flatten) := by
        have : (a :: l).length = 1 + k := by rw [List.length_cons, hl]; omega
        rw [this]
        exact hown
      obtain ⟨A3, c3, rfl, hr3⟩ := sl_of_own hown2 (fun _ => rfl)
      have HR3 := hide hr3
      have HE0 : Hid (VB w12 w.heap.size a ∧ VB w12 (w.heap.size + 1) b ∧ VB w12 go I ∧ RowV w12 w12.heap.size A8 T.length c8 T ∧ RowV w12 w12.heap.size A9 Z.length c9 Z ∧ Below w.heap.size w w12) := ⟨HI.out.va.kept hb12, HI.out.vb.kept hb12, HI.out.vo.kept hb12, HR8.out.kept hb12, HR9.out.kept hb12, Bel.then HB0.out hb12⟩
      clear hown hg hat hb12 hown2 hr3 HRW hml HB0 HI HR8 HR9 HNIL
      generalize (a :: l).length = m at *
      go_wp2_with fail
      refine (QIn.out _ _ _ _ HR3.out).mono ?_
      rintro e w13 ⟨rfl, hb⟩
      have HE1 : Hid (EnS w a b go w13.heap.size I T Z A8 c8 A9 c9 (w13.alloc (.cells #[.int .i64 I.kind, .int .i64 I.num, .string I.str] 26))) := by
        obtain ⟨g1, g2, g3, g4, g5, g6⟩ := HE0.out
        have hbb := Bel.then hb (Bel.one w13 (.cells #[.int .i64 I.kind, .int .i64 I.num, .string I.str] 26))
        exact ⟨g1.kept hbb, g2.kept hbb, g3.kept hbb, vb_new w13 _ _ _, g4.kept hbb, g5.kept hbb, Bel.then g6 hbb⟩
      obtain ⟨⟨c0, c1, c2⟩, ⟨y0, y1, y2⟩⟩ := (vb_one w13).all
      clear hb HE0 HR3
      go_upto_region 15 with (fail)
      clear c0 c1 c2 y0 y1 y2
      generalize w13.alloc (.cells #[.int .i64 I.kind, .int .i64 I.num, .string I.str] 26) = wq at *
      generalize w13.heap.size = gi at *
      have HI := hide HE1.out
      go_cut [14] from 77 to 83 (fun p wx => ∃ g7, p = .pointer (some ⟨g7, 0, none⟩) ∧ EnS w a b go gi I T Z A8 c8 A9 c9 wx ∧ VB wx g7 b)
      case first =>
        clear HE1
        refine wp_region_held_drew (S := fun w' => EnS w a b go gi I T Z A8 c8 A9 c9 w') (by kernel_rfl) (HI.out.kept (Below.refl _ _).drew) (fun hHeld => ?_)
        replace HI := hide (HI.out.kept (Below.refl wq.heap.size wq).drew)
        generalize wq.drew = wd at *
        first | (refine wpAnyH_take (i := 1) (v := ?_) nth1 (by kernel_rfl) (by kernel_rfl) (by kernel_rfl) (fun _ _ _ h => h) (Or.inl ⟨by rfl, ?_⟩) hHeld ?_; rotate_left; focus (intro wS hSw; (obtain ⟨⟨_, _, _⟩, _⟩ := hSw.va.all; obtain ⟨⟨_, _, _⟩, _⟩ := hSw.vb.all); go_simp; try with_reducible rfl; done)) | fail
        (try simp only [Act.put]); (try simp only [List.setIfInBounds_toArray]); (try simp only [List.set_cons_succ]); (try simp only [List.set_cons_zero])
        first | (refine wpAnyH_take (i := 2) (v := ?_) nth2 (by kernel_rfl) (by kernel_rfl) (by kernel_rfl) (fun _ _ _ h => h) (Or.inl ⟨by rfl, ?_⟩) hHeld ?_; rotate_left; focus (intro wS hSw; (obtain ⟨⟨_, _, _⟩, _⟩ := hSw.va.all; obtain ⟨⟨_, _, _⟩, _⟩ := hSw.vb.all); go_simp; try with_reducible rfl; done)) | fail
        (try simp only [Act.put]); (try simp only [List.setIfInBounds_toArray]); (try simp only [List.set_cons_succ]); (try simp only [List.set_cons_zero])
        first | (refine wpAnyH_take (i := 3) (v := ?_) nth3 (by kernel_rfl) (by kernel_rfl) (by kernel_rfl) (fun _ _ _ h => h) (Or.inl ⟨by rfl, ?_⟩) hHeld ?_; rotate_left; focus (intro wS hSw; (obtain ⟨⟨_, _, _⟩, _⟩ := hSw.va.all; obtain ⟨⟨_, _, _⟩, _⟩ := hSw.vb.all); go_simp; try with_reducible rfl; done)) | fail
        (try simp only [Act.put]); (try simp only [List.setIfInBounds_toArray]); (try simp only [List.set_cons_succ]); (try simp only [List.set_cons_zero])
        first | (refine wpAnyH_take (i := 4) (v := ?_) nth4 (by kernel_rfl) (by kernel_rfl) (by kernel_rfl) (fun _ _ _ h => h) (Or.inl ⟨by rfl, ?_⟩) hHeld ?_; rotate_left; focus (intro wS hSw; (obtain ⟨⟨_, _, _⟩, _⟩ := hSw.va.all; obtain ⟨⟨_, _, _⟩, _⟩ := hSw.vb.all); go_simp; try with_reducible rfl; done)) | fail
        (try simp only [Act.put]); (try simp only [List.setIfInBounds_toArray]); (try simp only [List.set_cons_succ]); (try simp only [List.set_cons_zero])
        clear hHeld
        refine wpAnyH_ready (rs := [0, 7]) (by kernel_rfl) (by simp) ?_
        refine (AllReadyH.cons nth0 (fun K hK => ?_) (AllReadyH.cons nth7 (fun K hK => ?_) AllReadyH.nil))
        · go_simp
          go_at_call 22
          refine (QB.out _).mono ?_
          rintro e wx18 ⟨rfl, hb⟩
          refine hK.out _ _ (HI.out.kept hb) (fun _ => ?_)
          clear hK K
          (try simp only [Act.put]); (try simp only [List.setIfInBounds_toArray]); (try simp only [List.set_cons_succ]); (try simp only [List.set_cons_zero])
          replace HI := hide (HI.out.kept hb)
          clear hb
          refine wpAnyH_ready (rs := [5, 7]) (by kernel_rfl) (by simp) ?_
          refine (AllReadyH.cons nth5 (fun K hK => ?_) (AllReadyH.cons nth7 (fun K hK => ?_) AllReadyH.nil))
          · go_simp
            refine hK.out _ _ (HI.out.kept (Bel.one _ _)) (fun _ => ?_)
            clear hK K
            (try simp only [Act.put]); (try simp only [List.setIfInBounds_toArray]); (try simp only [List.set_cons_succ]); (try simp only [List.set_cons_zero])
            replace HI := hide (HI.out.kept (Bel.one wx18 (.cells #[.int .i64 1, .int .i64 0, .string ByteArray.empty, .int .i64 a.kind, .int .i64 a.num, .string a.str, .int .i64 0, .int .i64 0, .string { data := #[] }, .int .i64 a.kind, .int .i64 a.num, .string a.str, .int .i64 b.kind, .int .i64 b.num, .string b.str] 26)))
            have R5 := hide (hp_new wx18 #[.int .i64 1, .int .i64 0, .string ByteArray.empty, .int .i64 a.kind, .int .i64 a.num, .string a.str, .int .i64 0, .int .i64 0, .string { data := #[] }, .int .i64 a.kind, .int .i64 a.num, .string a.str, .int .i64 b.kind, .int .i64 b.num, .string b.str] 26)
            generalize wx18.alloc (.cells #[.int .i64 1, .int .i64 0, .string ByteArray.empty, .int .i64 a.kind, .int .i64 a.num, .string a.str, .int .i64 0, .int .i64 0, .string { data := #[] }, .int .i64 a.kind, .int .i64 a.num, .string a.str, .int .i64 b.kind, .int .i64 b.num, .string b.str] 26) = wx19 at *
            generalize wx18.heap.size = g5 at *
            refine wpAnyH_ready (rs := [6, 7]) (by kernel_rfl) (by simp) ?_
            refine (AllReadyH.cons nth6 (fun K hK => ?_) (AllReadyH.cons nth7 (fun K hK => ?_) AllReadyH.nil))
            · go_simp
              go_at_call 10
              refine (QL.out _ _ (rw5 a b R5.out)).mono ?_
              rintro e wx20 ⟨rfl, hb⟩
              refine hK.out _ _ (HI.out.kept hb) (fun _ => ?_)
              clear hK K R5
              (try simp only [Act.put]); (try simp only [List.setIfInBounds_toArray]); (try simp only [List.set_cons_succ]); (try simp only [List.set_cons_zero])
              replace HI := hide (HI.out.kept hb)
              clear hb
              refine wpAnyH_ready (rs := [7]) (by kernel_rfl) (by simp) ?_
              refine (AllReadyH.cons nth7 (fun K hK => ?_) AllReadyH.nil)
              have G7 := hide (HI.out.fresh HTne.out HZne.out)
              go_simp
              refine hK.out _ _ (HI.out.kept (Bel.one _ _)) (fun _ => ?_)
              clear hK K
              (try simp only [Act.put]); (try simp only [List.setIfInBounds_toArray]); (try simp only [List.set_cons_succ]); (try simp only [List.set_cons_zero])
              replace HI := hide (HI.out.kept (Bel.one wx20 zO))
              have Z7 := hide (vb_one wx20)
              generalize wx20.alloc (.cells #[.int .i64 0, .int .i64 0, .string { data := #[] }] 26) = wx21 at *
              generalize wx20.heap.size = g7 at *
              refine wpAnyH_ready (rs := [8]) (by kernel_rfl) (by simp) ?_
              refine (AllReadyH.cons nth8 (fun K hK => ?_) AllReadyH.nil)
              obtain ⟨⟨c0, c1, c2⟩, ⟨y0, y1, y2⟩⟩ := Z7.out.all
              have HU := hide (HI.out.far G7.out b)
              have HZ := hide (Z7.out.set3 b)
              go_simp
              refine hK.out _ _ HU.out (fun _ => ?_)
              clear hK K c0 c1 c2 y0 y1 y2
              (try simp only [Act.put]); (try simp only [List.setIfInBounds_toArray]); (try simp only [List.set_cons_succ]); (try simp only [List.set_cons_zero])
              refine wpAnyH_done (by kernel_rfl) ?_ _
              go_wp2_with fail
              go_meet
              case rel => exact ⟨g7, rfl, HU.out, HZ.out⟩
            · have G7 := hide (HI.out.fresh HTne.out HZne.out)
              go_simp
              refine hK.out _ _ (HI.out.kept (Bel.one _ _)) (fun _ => ?_)
              clear hK K
              (try simp only [Act.put]); (try simp only [List.setIfInBounds_toArray]); (try simp only [List.set_cons_succ]); (try simp only [List.set_cons_zero])
              replace HI := hide (HI.out.kept (Bel.one wx19 zO))
              have Z7 := hide (vb_one wx19)
              replace R5 := hide (R5.out.kept (Bel.one wx19 zO))
              generalize wx19.alloc (.cells #[.int .i64 0, .int .i64 0, .string { data := #[] }] 26) = wx23 at *
              generalize wx19.heap.size = g7 at *
              refine wpAnyH_ready (rs := [6]) (by kernel_rfl) (by simp) ?_
              refine (AllReadyH.cons nth6 (fun K hK => ?_) AllReadyH.nil)
              go_simp
              go_at_call 10
              refine (QL.out _ _ (rw5 a b R5.out)).mono ?_
              rintro e wx24 ⟨rfl, hb⟩
              refine hK.out _ _ (HI.out.kept hb) (fun _ => ?_)
              clear hK K R5
              (try simp only [Act.put]); (try simp only [List.setIfInBounds_toArray]); (try simp only [List.set_cons_succ]); (try simp only [List.set_cons_zero])
              replace HI := hide (HI.out.kept hb)
              replace Z7 := hide (Z7.out.kept hb)
              clear hb
              refine wpAnyH_ready (rs := [8]) (by kernel_rfl) (by simp) ?_
              refine (AllReadyH.cons nth8 (fun K hK => ?_) AllReadyH.nil)
              obtain ⟨⟨c0, c1, c2⟩, ⟨y0, y1, y2⟩⟩ := Z7.out.all
              have HU := hide (HI.out.far G7.out b)
              have HZ := hide (Z7.out.set3 b)
              go_simp
              refine hK.out _ _ HU.out (fun _ => ?_)
              clear hK K c0 c1 c2 y0 y1 y2
              (try simp only [Act.put]); (try simp only [List.setIfInBounds_toArray]); (try simp only [List.set_cons_succ]); (try simp only [List.set_cons_zero])
              refine wpAnyH_done (by kernel_rfl) ?_ _
              go_wp2_with fail
              go_meet
              case rel => exact ⟨g7, rfl, HU.out, HZ.out⟩
          · have G7 := hide (HI.out.fresh HTne.out HZne.out)
            go_simp
            refine hK.out _ _ (HI.out.kept (Bel.one _ _)) (fun _ => ?_)
            clear hK K
            (try simp only [Act.put]); (try simp only [List.setIfInBounds_toArray]); (try simp only [List.set_cons_succ]); (try simp only [List.set_cons_zero])
            replace HI := hide (HI.out.kept (Bel.one wx18 zO))
            have Z7 := hide (vb_one wx18)
            generalize wx18.alloc (.cells #[.int .i64 0, .int .i64 0, .string { data := #[] }] 26) = wx26 at *
            generalize wx18.heap.size = g7 at *
            refine wpAnyH_ready (rs := [5]) (by kernel_rfl) (by simp) ?_
            refine (AllReadyH.cons nth5 (fun K hK => ?_) AllReadyH.nil)
            go_simp
            refine hK.out _ _ (HI.out.kept (Bel.one _ _)) (fun _ => ?_)
            clear hK K
            (try simp only [Act.put]); (try simp only [List.setIfInBounds_toArray]); (try simp only [List.set_cons_succ]); (try simp only [List.set_cons_zero])
            replace HI := hide (HI.out.kept (Bel.one wx26 (.cells #[.int .i64 1, .int .i64 0, .string ByteArray.empty, .int .i64 a.kind, .int .i64 a.num, .string a.str, .int .i64 0, .int .i64 0, .string { data := #[] }, .int .i64 a.kind, .int .i64 a.num, .string a.str, .int .i64 b.kind, .int .i64 b.num, .string b.str] 26)))
            replace Z7 := hide (Z7.out.kept (Bel.one wx26 (.cells #[.int .i64 1, .int .i64 0, .string ByteArray.empty, .int .i64 a.kind, .int .i64 a.num, .string a.str, .int .i64 0, .int .i64 0, .string { data := #[] }, .int .i64 a.kind, .int .i64 a.num, .string a.str, .int .i64 b.kind, .int .i64 b.num, .string b.str] 26)))
            have R5 := hide (hp_new wx26 #[.int .i64 1, .int .i64 0, .string ByteArray.empty, .int .i64 a.kind, .int .i64 a.num, .string a.str, .int .i64 0, .int .i64 0, .string { data := #[] }, .int .i64 a.kind, .int .i64 a.num, .string a.str, .int .i64 b.kind, .int .i64 b.num, .string b.str] 26)
            generalize wx26.alloc (.cells #[.int .i64 1, .int .i64 0, .string ByteArray.empty, .int .i64 a.kind, .int .i64 a.num, .string a.str, .int .i64 0, .int .i64 0, .string { data := #[] }, .int .i64 a.kind, .int .i64 a.num, .string a.str, .int .i64 b.kind, .int .i64 b.num, .string b.str] 26) = wx27 at *
            generalize wx26.heap.size = g5 at *
            refine wpAnyH_ready (rs := [6]) (by kernel_rfl) (by simp) ?_
            refine (AllReadyH.cons nth6 (fun K hK => ?_) AllReadyH.nil)
            go_simp
            go_at_call 10
            refine (QL.out _ _ (rw5 a b R5.out)).mono ?_
            rintro e wx28 ⟨rfl, hb⟩
            refine hK.out _ _ (HI.out.kept hb) (fun _ => ?_)
            clear hK K R5
            (try simp only [Act.put]); (try simp only [List.setIfInBounds_toArray]); (try simp only [List.set_cons_succ]); (try simp only [List.set_cons_zero])
            replace HI := hide (HI.out.kept hb)
            replace Z7 := hide (Z7.out.kept hb)
            clear hb
            refine wpAnyH_ready (rs := [8]) (by kernel_rfl) (by simp) ?_
            refine (AllReadyH.cons nth8 (fun K hK => ?_) AllReadyH.nil)
            obtain ⟨⟨c0, c1, c2⟩, ⟨y0, y1, y2⟩⟩ := Z7.out.all
            have HU := hide (HI.out.far G7.out b)
            have HZ := hide (Z7.out.set3 b)
            go_simp
            refine hK.out _ _ HU.out (fun _ => ?_)
            clear hK K c0 c1 c2 y0 y1 y2
            (try simp only [Act.put]); (try simp only [List.setIfInBounds_toArray]); (try simp only [List.set_cons_succ]); (try simp only [List.set_cons_zero])
            refine wpAnyH_done (by kernel_rfl) ?_ _
            go_wp2_with fail
            go_meet
            case rel => exact ⟨g7, rfl, HU.out, HZ.out⟩
        · have G7 := hide (HI.out.fresh HTne.out HZne.out)
          go_simp
          refine hK.out _ _ (HI.out.kept (Bel.one _ _)) (fun _ => ?_)
          clear hK K
          (try simp only [Act.put]); (try simp only [List.setIfInBounds_toArray]); (try simp only [List.set_cons_succ]); (try simp only [List.set_cons_zero])
          replace HI := hide (HI.out.kept (Bel.one wd zO))
          have Z7 := hide (vb_one wd)
          generalize wd.alloc (.cells #[.int .i64 0, .int .i64 0, .string { data := #[] }] 26) = wx30 at *
          generalize wd.heap.size = g7 at *
          refine wpAnyH_ready (rs := [0]) (by kernel_rfl) (by simp) ?_
          refine (AllReadyH.cons nth0 (fun K hK => ?_) AllReadyH.nil)
          go_simp
          go_at_call 22
          refine (QB.out _).mono ?_
          rintro e wx31 ⟨rfl, hb⟩
          refine hK.out _ _ (HI.out.kept hb) (fun _ => ?_)
          clear hK K
          (try simp only [Act.put]); (try simp only [List.setIfInBounds_toArray]); (try simp only [List.set_cons_succ]); (try simp only [List.set_cons_zero])
          replace HI := hide (HI.out.kept hb)
          replace Z7 := hide (Z7.out.kept hb)
          clear hb
          refine wpAnyH_ready (rs := [5]) (by kernel_rfl) (by simp) ?_
          refine (AllReadyH.cons nth5 (fun K hK => ?_) AllReadyH.nil)
          go_simp
          refine hK.out _ _ (HI.out.kept (Bel.one _ _)) (fun _ => ?_)
          clear hK K
          (try simp only [Act.put]); (try simp only [List.setIfInBounds_toArray]); (try simp only [List.set_cons_succ]); (try simp only [List.set_cons_zero])
          replace HI := hide (HI.out.kept (Bel.one wx31 (.cells #[.int .i64 1, .int .i64 0, .string ByteArray.empty, .int .i64 a.kind, .int .i64 a.num, .string a.str, .int .i64 0, .int .i64 0, .string { data := #[] }, .int .i64 a.kind, .int .i64 a.num, .string a.str, .int .i64 b.kind, .int .i64 b.num, .string b.str] 26)))
          replace Z7 := hide (Z7.out.kept (Bel.one wx31 (.cells #[.int .i64 1, .int .i64 0, .string ByteArray.empty, .int .i64 a.kind, .int .i64 a.num, .string a.str, .int .i64 0, .int .i64 0, .string { data := #[] }, .int .i64 a.kind, .int .i64 a.num, .string a.str, .int .i64 b.kind, .int .i64 b.num, .string b.str] 26)))
          have R5 := hide (hp_new wx31 #[.int .i64 1, .int .i64 0, .string ByteArray.empty, .int .i64 a.kind, .int .i64 a.num, .string a.str, .int .i64 0, .int .i64 0, .string { data := #[] }, .int .i64 a.kind, .int .i64 a.num, .string a.str, .int .i64 b.kind, .int .i64 b.num, .string b.str] 26)
          generalize wx31.alloc (.cells #[.int .i64 1, .int .i64 0, .string ByteArray.empty, .int .i64 a.kind, .int .i64 a.num, .string a.str, .int .i64 0, .int .i64 0, .string { data := #[] }, .int .i64 a.kind, .int .i64 a.num, .string a.str, .int .i64 b.kind, .int .i64 b.num, .string b.str] 26) = wx32 at *
          generalize wx31.heap.size = g5 at *
          refine wpAnyH_ready (rs := [6]) (by kernel_rfl) (by simp) ?_
          refine (AllReadyH.cons nth6 (fun K hK => ?_) AllReadyH.nil)
          go_simp
          go_at_call 10
          refine (QL.out _ _ (rw5 a b R5.out)).mono ?_
          rintro e wx33 ⟨rfl, hb⟩
          refine hK.out _ _ (HI.out.kept hb) (fun _ => ?_)
          clear hK K R5
          (try simp only [Act.put]); (try simp only [List.setIfInBounds_toArray]); (try simp only [List.set_cons_succ]); (try simp only [List.set_cons_zero])
          replace HI := hide (HI.out.kept hb)
          replace Z7 := hide (Z7.out.kept hb)
          clear hb
          refine wpAnyH_ready (rs := [8]) (by kernel_rfl) (by simp) ?_
          refine (AllReadyH.cons nth8 (fun K hK => ?_) AllReadyH.nil)
          obtain ⟨⟨c0, c1, c2⟩, ⟨y0, y1, y2⟩⟩ := Z7.out.all
          have HU := hide (HI.out.far G7.out b)
          have HZ := hide (Z7.out.set3 b)
          go_simp
          refine hK.out _ _ HU.out (fun _ => ?_)
          clear hK K c0 c1 c2 y0 y1 y2
          (try simp only [Act.put]); (try simp only [List.setIfInBounds_toArray]); (try simp only [List.set_cons_succ]); (try simp only [List.set_cons_zero])
          refine wpAnyH_done (by kernel_rfl) ?_ _
          go_wp2_with fail
          go_meet
          case rel => exact ⟨g7, rfl, HU.out, HZ.out⟩
      case rest =>
        obtain ⟨g7, rfl, hE, hZ7⟩ := hcut
        have HE := hide hE
        have HZ7 := hide hZ7
        clear HI HE1 hE hZ7 QB QL
        go_upto_region 16 with (fail)
        refine wp_region_held_drew (S := (fun w' => EnS w a b go gi I T Z A8 c8 A9 c9 w' ∧ VB w' g7 b)) (by kernel_rfl) (⟨HE.out.kept (Below.refl _ _).drew, HZ7.out.kept (Below.refl _ _).drew⟩) (fun hHeld => ?_)
        refine wpAnyH_ready (rs := [0]) (by kernel_rfl) (by simp) ?_
        refine AllReadyH.cons nth0 (fun K hK => ?_) AllReadyH.nil
        go_simp
        (first | (go_at_call 9; refine (awake_c _).mono ?_; rintro e w' ⟨rfl, hb⟩) | (go_at_call 10; with_reducible refine (QTr.out _ hHeld.1.t).mono ?_; rintro e w' ⟨rfl, hb⟩) | (go_at_call 10; with_reducible refine (QCo.out _ (H.out.kept hHeld.1.hb)).mono ?_; rintro e w' ⟨rfl, hb⟩) | (go_at_call 10; with_reducible refine (QWh.out _ hHeld.1.z).mono ?_; rintro e w' ⟨rfl, hb⟩))
        refine hK.out _ _ (⟨hHeld.1.kept hb, hHeld.2.kept hb⟩) (fun hHeld => ?_)
        clear hK K
        (try simp only [Act.put]); (try simp only [List.setIfInBounds_toArray]); (try simp only [List.set_cons_succ]); (try simp only [List.set_cons_zero])
        first | (refine wpAnyH_take (i := 1) (v := ?_) nth1 (by kernel_rfl) (by kernel_rfl) (by kernel_rfl) (fun _ _ _ h => h) (Or.inl ⟨by rfl, ?_⟩) hHeld ?_; rotate_left; focus (intro wS hSw; (obtain ⟨⟨_, _, _⟩, _⟩ := hSw.1.vi.all; obtain ⟨⟨_, _, _⟩, _⟩ := hSw.1.vo.all; obtain ⟨⟨_, _, _⟩, _⟩ := hSw.1.vb.all; obtain ⟨⟨_, _, _⟩, _⟩ := hSw.2.all; have q1 := EI.out; have q2 := EB.out; have q3 := EC.out); go_simp; try with_reducible rfl; done)) | (refine wpAnyH_take (i := 1) (v := undef) nth1 (by kernel_rfl) (by kernel_rfl) (by kernel_rfl) (fun _ _ _ h => h) (Or.inr ⟨by rfl, rfl⟩) hHeld ?_)
        (try simp only [Act.put]); (try simp only [List.setIfInBounds_toArray]); (try simp only [List.set_cons_succ]); (try simp only [List.set_cons_zero])
        first | (refine wpAnyH_take (i := 2) (v := ?_) nth2 (by kernel_rfl) (by kernel_rfl) (by kernel_rfl) (fun _ _ _ h => h) (Or.inl ⟨by rfl, ?_⟩) hHeld ?_; rotate_left; focus (intro wS hSw; (obtain ⟨⟨_, _, _⟩, _⟩ := hSw.1.vi.all; obtain ⟨⟨_, _, _⟩, _⟩ := hSw.1.vo.all; obtain ⟨⟨_, _, _⟩, _⟩ := hSw.1.vb.all; obtain ⟨⟨_, _, _⟩, _⟩ := hSw.2.all; have q1 := EI.out; have q2 := EB.out; have q3 := EC.out); go_simp; try with_reducible rfl; done)) | (refine wpAnyH_take (i := 2) (v := undef) nth2 (by kernel_rfl) (by kernel_rfl) (by kernel_rfl) (fun _ _ _ h => h) (Or.inr ⟨by rfl, rfl⟩) hHeld ?_)
        (try simp only [Act.put]); (try simp only [List.setIfInBounds_toArray]); (try simp only [List.set_cons_succ]); (try simp only [List.set_cons_zero])
        first | (refine wpAnyH_take (i := 3) (v := ?_) nth3 (by kernel_rfl) (by kernel_rfl) (by kernel_rfl) (fun _ _ _ h => h) (Or.inl ⟨by rfl, ?_⟩) hHeld ?_; rotate_left; focus (intro wS hSw; (obtain ⟨⟨_, _, _⟩, _⟩ := hSw.1.vi.all; obtain ⟨⟨_, _, _⟩, _⟩ := hSw.1.vo.all; obtain ⟨⟨_, _, _⟩, _⟩ := hSw.1.vb.all; obtain ⟨⟨_, _, _⟩, _⟩ := hSw.2.all; have q1 := EI.out; have q2 := EB.out; have q3 := EC.out); go_simp; try with_reducible rfl; done)) | (refine wpAnyH_take (i := 3) (v := undef) nth3 (by kernel_rfl) (by kernel_rfl) (by kernel_rfl) (fun _ _ _ h => h) (Or.inr ⟨by rfl, rfl⟩) hHeld ?_)
        (try simp only [Act.put]); (try simp only [List.setIfInBounds_toArray]); (try simp only [List.set_cons_succ]); (try simp only [List.set_cons_zero])
        first | (refine wpAnyH_take (i := 4) (v := ?_) nth4 (by kernel_rfl) (by kernel_rfl) (by kernel_rfl) (fun _ _ _ h => h) (Or.inl ⟨by rfl, ?_⟩) hHeld ?_; rotate_left; focus (intro wS hSw; (obtain ⟨⟨_, _, _⟩, _⟩ := hSw.1.vi.all; obtain ⟨⟨_, _, _⟩, _⟩ := hSw.1.vo.all; obtain ⟨⟨_, _, _⟩, _⟩ := hSw.1.vb.all; obtain ⟨⟨_, _, _⟩, _⟩ := hSw.2.all; have q1 := EI.out; have q2 := EB.out; have q3 := EC.out); go_simp; try with_reducible rfl; done)) | (refine wpAnyH_take (i := 4) (v := undef) nth4 (by kernel_rfl) (by kernel_rfl) (by kernel_rfl) (fun _ _ _ h => h) (Or.inr ⟨by rfl, rfl⟩) hHeld ?_)
        (try simp only [Act.put]); (try simp only [List.setIfInBounds_toArray]); (try simp only [List.set_cons_succ]); (try simp only [List.set_cons_zero])
        first | (refine wpAnyH_take (i := 5) (v := ?_) nth5 (by kernel_rfl) (by kernel_rfl) (by kernel_rfl) (fun _ _ _ h => h) (Or.inl ⟨by rfl, ?_⟩) hHeld ?_; rotate_left; focus (intro wS hSw; (obtain ⟨⟨_, _, _⟩, _⟩ := hSw.1.vi.all; obtain ⟨⟨_, _, _⟩, _⟩ := hSw.1.vo.all; obtain ⟨⟨_, _, _⟩, _⟩ := hSw.1.vb.all; obtain ⟨⟨_, _, _⟩, _⟩ := hSw.2.all; have q1 := EI.out; have q2 := EB.out; have q3 := EC.out); go_simp; try with_reducible rfl; done)) | (refine wpAnyH_take (i := 5) (v := undef) nth5 (by kernel_rfl) (by kernel_rfl) (by kernel_rfl) (fun _ _ _ h => h) (Or.inr ⟨by rfl, rfl⟩) hHeld ?_)
        (try simp only [Act.put]); (try simp only [List.setIfInBounds_toArray]); (try simp only [List.set_cons_succ]); (try simp only [List.set_cons_zero])
        first | (refine wpAnyH_take (i := 6) (v := ?_) nth6 (by kernel_rfl) (by kernel_rfl) (by kernel_rfl) (fun _ _ _ h => h) (Or.inl ⟨by rfl, ?_⟩) hHeld ?_; rotate_left; focus (intro wS hSw; (obtain ⟨⟨_, _, _⟩, _⟩ := hSw.1.vi.all; obtain ⟨⟨_, _, _⟩, _⟩ := hSw.1.vo.all; obtain ⟨⟨_, _, _⟩, _⟩ := hSw.1.vb.all; obtain ⟨⟨_, _, _⟩, _⟩ := hSw.2.all; have q1 := EI.out; have q2 := EB.out; have q3 := EC.out); go_simp; try with_reducible rfl; done)) | (refine wpAnyH_take (i := 6) (v := undef) nth6 (by kernel_rfl) (by kernel_rfl) (by kernel_rfl) (fun _ _ _ h => h) (Or.inr ⟨by rfl, rfl⟩) hHeld ?_)
        (try simp only [Act.put]); (try simp only [List.setIfInBounds_toArray]); (try simp only [List.set_cons_succ]); (try simp only [List.set_cons_zero])
        first | (refine wpAnyH_take (i := 7) (v := ?_) nth7 (by kernel_rfl) (by kernel_rfl) (by kernel_rfl) (fun _ _ _ h => h) (Or.inl ⟨by rfl, ?_⟩) hHeld ?_; rotate_left; focus (intro wS hSw; (obtain ⟨⟨_, _, _⟩, _⟩ := hSw.1.vi.all; obtain ⟨⟨_, _, _⟩, _⟩ := hSw.1.vo.all; obtain ⟨⟨_, _, _⟩, _⟩ := hSw.1.vb.all; obtain ⟨⟨_, _, _⟩, _⟩ := hSw.2.all; have q1 := EI.out; have q2 := EB.out; have q3 := EC.out); go_simp; try with_reducible rfl; done)) | (refine wpAnyH_take (i := 7) (v := undef) nth7 (by kernel_rfl) (by kernel_rfl) (by kernel_rfl) (fun _ _ _ h => h) (Or.inr ⟨by rfl, rfl⟩) hHeld ?_)
        (try simp only [Act.put]); (try simp only [List.setIfInBounds_toArray]); (try simp only [List.set_cons_succ]); (try simp only [List.set_cons_zero])
        first | (refine wpAnyH_take (i := 8) (v := ?_) nth8 (by kernel_rfl) (by kernel_rfl) (by kernel_rfl) (fun _ _ _ h => h) (Or.inl ⟨by rfl, ?_⟩) hHeld ?_; rotate_left; focus (intro wS hSw; (obtain ⟨⟨_, _, _⟩, _⟩ := hSw.1.vi.all; obtain ⟨⟨_, _, _⟩, _⟩ := hSw.1.vo.all; obtain ⟨⟨_, _, _⟩, _⟩ := hSw.1.vb.all; obtain ⟨⟨_, _, _⟩, _⟩ := hSw.2.all; have q1 := EI.out; have q2 := EB.out; have q3 := EC.out); go_simp; try with_reducible rfl; done)) | (refine wpAnyH_take (i := 8) (v := undef) nth8 (by kernel_rfl) (by kernel_rfl) (by kernel_rfl) (fun _ _ _ h => h) (Or.inr ⟨by rfl, rfl⟩) hHeld ?_)
        (try simp only [Act.put]); (try simp only [List.setIfInBounds_toArray]); (try simp only [List.set_cons_succ]); (try simp only [List.set_cons_zero])
        refine wpAnyH_ready (rs := [9]) (by kernel_rfl) (by simp) ?_
        refine AllReadyH.cons nth9 (fun K hK => ?_) AllReadyH.nil
        go_simp
        (first | (go_at_call 9; refine (awake_c _).mono ?_; rintro e w' ⟨rfl, hb⟩) | (go_at_call 10; with_reducible refine (QTr.out _ hHeld.1.t).mono ?_; rintro e w' ⟨rfl, hb⟩) | (go_at_call 10; with_reducible refine (QCo.out _ (H.out.kept hHeld.1.hb)).mono ?_; rintro e w' ⟨rfl, hb⟩) | (go_at_call 10; with_reducible refine (QWh.out _ hHeld.1.z).mono ?_; rintro e w' ⟨rfl, hb⟩))
        refine hK.out _ _ (⟨hHeld.1.kept hb, hHeld.2.kept hb⟩) (fun hHeld => ?_)
        clear hK K
        (try simp only [Act.put]); (try simp only [List.setIfInBounds_toArray]); (try simp only [List.set_cons_succ]); (try simp only [List.set_cons_zero])
        first | (refine wpAnyH_take (i := 10) (v := ?_) nth10 (by kernel_rfl) (by kernel_rfl) (by kernel_rfl) (fun _ _ _ h => h) (Or.inl ⟨by rfl, ?_⟩) hHeld ?_; rotate_left; focus (intro wS hSw; (obtain ⟨⟨_, _, _⟩, _⟩ := hSw.1.vi.all; obtain ⟨⟨_, _, _⟩, _⟩ := hSw.1.vo.all; obtain ⟨⟨_, _, _⟩, _⟩ := hSw.1.vb.all; obtain ⟨⟨_, _, _⟩, _⟩ := hSw.2.all; have q1 := EI.out; have q2 := EB.out; have q3 := EC.out); go_simp; try with_reducible rfl; done)) | (refine wpAnyH_take (i := 10) (v := undef) nth10 (by kernel_rfl) (by kernel_rfl) (by kernel_rfl) (fun _ _ _ h => h) (Or.inr ⟨by rfl, rfl⟩) hHeld ?_)
        (try simp only [Act.put]); (try simp only [List.setIfInBounds_toArray]); (try simp only [List.set_cons_succ]); (try simp only [List.set_cons_zero])
        first | (refine wpAnyH_take (i := 11) (v := ?_) nth11 (by kernel_rfl) (by kernel_rfl) (by kernel_rfl) (fun _ _ _ h => h) (Or.inl ⟨by rfl, ?_⟩) hHeld ?_; rotate_left; focus (intro wS hSw; (obtain ⟨⟨_, _, _⟩, _⟩ := hSw.1.vi.all; obtain ⟨⟨_, _, _⟩, _⟩ := hSw.1.vo.all; obtain ⟨⟨_, _, _⟩, _⟩ := hSw.1.vb.all; obtain ⟨⟨_, _, _⟩, _⟩ := hSw.2.all; have q1 := EI.out; have q2 := EB.out; have q3 := EC.out); go_simp; try with_reducible rfl; done)) | (refine wpAnyH_take (i := 11) (v := undef) nth11 (by kernel_rfl) (by kernel_rfl) (by kernel_rfl) (fun _ _ _ h => h) (Or.inr ⟨by rfl, rfl⟩) hHeld ?_)
        (try simp only [Act.put]); (try simp only [List.setIfInBounds_toArray]); (try simp only [List.set_cons_succ]); (try simp only [List.set_cons_zero])
        first | (refine wpAnyH_take (i := 12) (v := ?_) nth12 (by kernel_rfl) (by kernel_rfl) (by kernel_rfl) (fun _ _ _ h => h) (Or.inl ⟨by rfl, ?_⟩) hHeld ?_; rotate_left; focus (intro wS hSw; (obtain ⟨⟨_, _, _⟩, _⟩ := hSw.1.vi.all; obtain ⟨⟨_, _, _⟩, _⟩ := hSw.1.vo.all; obtain ⟨⟨_, _, _⟩, _⟩ := hSw.1.vb.all; obtain ⟨⟨_, _, _⟩, _⟩ := hSw.2.all; have q1 := EI.out; have q2 := EB.out; have q3 := EC.out); go_simp; try with_reducible rfl; done)) | (refine wpAnyH_take (i := 12) (v := undef) nth12 (by kernel_rfl) (by kernel_rfl) (by kernel_rfl) (fun _ _ _ h => h) (Or.inr ⟨by rfl, rfl⟩) hHeld ?_)
        (try simp only [Act.put]); (try simp only [List.setIfInBounds_toArray]); (try simp only [List.set_cons_succ]); (try simp only [List.set_cons_zero])
        first | (refine wpAnyH_take (i := 13) (v := ?_) nth13 (by kernel_rfl) (by kernel_rfl) (by kernel_rfl) (fun _ _ _ h => h) (Or.inl ⟨by rfl, ?_⟩) hHeld ?_; rotate_left; focus (intro wS hSw; (obtain ⟨⟨_, _, _⟩, _⟩ := hSw.1.vi.all; obtain ⟨⟨_, _, _⟩, _⟩ := hSw.1.vo.all; obtain ⟨⟨_, _, _⟩, _⟩ := hSw.1.vb.all; obtain ⟨⟨_, _, _⟩, _⟩ := hSw.2.all; have q1 := EI.out; have q2 := EB.out; have q3 := EC.out); go_simp; try with_reducible rfl; done)) | (refine wpAnyH_take (i := 13) (v := undef) nth13 (by kernel_rfl) (by kernel_rfl) (by kernel_rfl) (fun _ _ _ h => h) (Or.inr ⟨by rfl, rfl⟩) hHeld ?_)
        (try simp only [Act.put]); (try simp only [List.setIfInBounds_toArray]); (try simp only [List.set_cons_succ]); (try simp only [List.set_cons_zero])
        first | (refine wpAnyH_take (i := 14) (v := ?_) nth14 (by kernel_rfl) (by kernel_rfl) (by kernel_rfl) (fun _ _ _ h => h) (Or.inl ⟨by rfl, ?_⟩) hHeld ?_; rotate_left; focus (intro wS hSw; (obtain ⟨⟨_, _, _⟩, _⟩ := hSw.1.vi.all; obtain ⟨⟨_, _, _⟩, _⟩ := hSw.1.vo.all; obtain ⟨⟨_, _, _⟩, _⟩ := hSw.1.vb.all; obtain ⟨⟨_, _, _⟩, _⟩ := hSw.2.all; have q1 := EI.out; have q2 := EB.out; have q3 := EC.out); go_simp; try with_reducible rfl; done)) | (refine wpAnyH_take (i := 14) (v := undef) nth14 (by kernel_rfl) (by kernel_rfl) (by kernel_rfl) (fun _ _ _ h => h) (Or.inr ⟨by rfl, rfl⟩) hHeld ?_)
        (try simp only [Act.put]); (try simp only [List.setIfInBounds_toArray]); (try simp only [List.set_cons_succ]); (try simp only [List.set_cons_zero])
        first | (refine wpAnyH_take (i := 15) (v := ?_) nth15 (by kernel_rfl) (by kernel_rfl) (by kernel_rfl) (fun _ _ _ h => h) (Or.inl ⟨by rfl, ?_⟩) hHeld ?_; rotate_left; focus (intro wS hSw; (obtain ⟨⟨_, _, _⟩, _⟩ := hSw.1.vi.all; obtain ⟨⟨_, _, _⟩, _⟩ := hSw.1.vo.all; obtain ⟨⟨_, _, _⟩, _⟩ := hSw.1.vb.all; obtain ⟨⟨_, _, _⟩, _⟩ := hSw.2.all; have q1 := EI.out; have q2 := EB.out; have q3 := EC.out); go_simp; try with_reducible rfl; done)) | (refine wpAnyH_take (i := 15) (v := undef) nth15 (by kernel_rfl) (by kernel_rfl) (by kernel_rfl) (fun _ _ _ h => h) (Or.inr ⟨by rfl, rfl⟩) hHeld ?_)
        (try simp only [Act.put]); (try simp only [List.setIfInBounds_toArray]); (try simp only [List.set_cons_succ]); (try simp only [List.set_cons_zero])
        first | (refine wpAnyH_take (i := 16) (v := ?_) nth16 (by kernel_rfl) (by kernel_rfl) (by kernel_rfl) (fun _ _ _ h => h) (Or.inl ⟨by rfl, ?_⟩) hHeld ?_; rotate_left; focus (intro wS hSw; (obtain ⟨⟨_, _, _⟩, _⟩ := hSw.1.vi.all; obtain ⟨⟨_, _, _⟩, _⟩ := hSw.1.vo.all; obtain ⟨⟨_, _, _⟩, _⟩ := hSw.1.vb.all; obtain ⟨⟨_, _, _⟩, _⟩ := hSw.2.all; have q1 := EI.out; have q2 := EB.out; have q3 := EC.out); go_simp; try with_reducible rfl; done)) | (refine wpAnyH_take (i := 16) (v := undef) nth16 (by kernel_rfl) (by kernel_rfl) (by kernel_rfl) (fun _ _ _ h => h) (Or.inr ⟨by rfl, rfl⟩) hHeld ?_)
        (try simp only [Act.put]); (try simp only [List.setIfInBounds_toArray]); (try simp only [List.set_cons_succ]); (try simp only [List.set_cons_zero])
        first | (refine wpAnyH_take (i := 17) (v := ?_) nth17 (by kernel_rfl) (by kernel_rfl) (by kernel_rfl) (fun _ _ _ h => h) (Or.inl ⟨by rfl, ?_⟩) hHeld ?_; rotate_left; focus (intro wS hSw; (obtain ⟨⟨_, _, _⟩, _⟩ := hSw.1.vi.all; obtain ⟨⟨_, _, _⟩, _⟩ := hSw.1.vo.all; obtain ⟨⟨_, _, _⟩, _⟩ := hSw.1.vb.all; obtain ⟨⟨_, _, _⟩, _⟩ := hSw.2.all; have q1 := EI.out; have q2 := EB.out; have q3 := EC.out); go_simp; try with_reducible rfl; done)) | (refine wpAnyH_take (i := 17) (v := undef) nth17 (by kernel_rfl) (by kernel_rfl) (by kernel_rfl) (fun _ _ _ h => h) (Or.inr ⟨by rfl, rfl⟩) hHeld ?_)
        (try simp only [Act.put]); (try simp only [List.setIfInBounds_toArray]); (try simp only [List.set_cons_succ]); (try simp only [List.set_cons_zero])
        first | (refine wpAnyH_take (i := 18) (v := ?_) nth18 (by kernel_rfl) (by kernel_rfl) (by kernel_rfl) (fun _ _ _ h => h) (Or.inl ⟨by rfl, ?_⟩) hHeld ?_; rotate_left; focus (intro wS hSw; (obtain ⟨⟨_, _, _⟩, _⟩ := hSw.1.vi.all; obtain ⟨⟨_, _, _⟩, _⟩ := hSw.1.vo.all; obtain ⟨⟨_, _, _⟩, _⟩ := hSw.1.vb.all; obtain ⟨⟨_, _, _⟩, _⟩ := hSw.2.all; have q1 := EI.out; have q2 := EB.out; have q3 := EC.out); go_simp; try with_reducible rfl; done)) | (refine wpAnyH_take (i := 18) (v := undef) nth18 (by kernel_rfl) (by kernel_rfl) (by kernel_rfl) (fun _ _ _ h => h) (Or.inr ⟨by rfl, rfl⟩) hHeld ?_)
        (try simp only [Act.put]); (try simp only [List.setIfInBounds_toArray]); (try simp only [List.set_cons_succ]); (try simp only [List.set_cons_zero])
        first | (refine wpAnyH_take (i := 20) (v := ?_) nth20 (by kernel_rfl) (by kernel_rfl) (by kernel_rfl) (fun _ _ _ h => h) (Or.inl ⟨by rfl, ?_⟩) hHeld ?_; rotate_left; focus (intro wS hSw; (obtain ⟨⟨_, _, _⟩, _⟩ := hSw.1.vi.all; obtain ⟨⟨_, _, _⟩, _⟩ := hSw.1.vo.all; obtain ⟨⟨_, _, _⟩, _⟩ := hSw.1.vb.all; obtain ⟨⟨_, _, _⟩, _⟩ := hSw.2.all; have q1 := EI.out; have q2 := EB.out; have q3 := EC.out); go_simp; try with_reducible rfl; done)) | (refine wpAnyH_take (i := 20) (v := undef) nth20 (by kernel_rfl) (by kernel_rfl) (by kernel_rfl) (fun _ _ _ h => h) (Or.inr ⟨by rfl, rfl⟩) hHeld ?_)
        (try simp only [Act.put]); (try simp only [List.setIfInBounds_toArray]); (try simp only [List.set_cons_succ]); (try simp only [List.set_cons_zero])
        refine wpAnyH_ready (rs := [19]) (by kernel_rfl) (by simp) ?_
        refine AllReadyH.cons nth19 (fun K hK => ?_) AllReadyH.nil
        go_simp
        (first | (go_at_call 9; refine (awake_c _).mono ?_; rintro e w' ⟨rfl, hb⟩) | (go_at_call 10; with_reducible refine (QTr.out _ hHeld.1.t).mono ?_; rintro e w' ⟨rfl, hb⟩) | (go_at_call 10; with_reducible refine (QCo.out _ (H.out.kept hHeld.1.hb)).mono ?_; rintro e w' ⟨rfl, hb⟩) | (go_at_call 10; with_reducible refine (QWh.out _ hHeld.1.z).mono ?_; rintro e w' ⟨rfl, hb⟩))
        refine hK.out _ _ (⟨hHeld.1.kept hb, hHeld.2.kept hb⟩) (fun hHeld => ?_)
        clear hK K
        (try simp only [Act.put]); (try simp only [List.setIfInBounds_toArray]); (try simp only [List.set_cons_succ]); (try simp only [List.set_cons_zero])
        refine wpAnyH_ready (rs := [21]) (by kernel_rfl) (by simp) ?_
        refine AllReadyH.cons nth21 (fun K hK => ?_) AllReadyH.nil
        go_simp
        (first | (go_at_call 9; refine (awake_c _).mono ?_; rintro e w' ⟨rfl, hb⟩) | (go_at_call 10; with_reducible refine (QTr.out _ hHeld.1.t).mono ?_; rintro e w' ⟨rfl, hb⟩) | (go_at_call 10; with_reducible refine (QCo.out _ (H.out.kept hHeld.1.hb)).mono ?_; rintro e w' ⟨rfl, hb⟩) | (go_at_call 10; with_reducible refine (QWh.out _ hHeld.1.z).mono ?_; rintro e w' ⟨rfl, hb⟩))
        refine hK.out _ _ (⟨hHeld.1.kept hb, hHeld.2.kept hb⟩) (fun hHeld => ?_)
        clear hK K
        (try simp only [Act.put]); (try simp only [List.setIfInBounds_toArray]); (try simp only [List.set_cons_succ]); (try simp only [List.set_cons_zero])
        first | (refine wpAnyH_take (i := 22) (v := ?_) nth22 (by kernel_rfl) (by kernel_rfl) (by kernel_rfl) (fun _ _ _ h => h) (Or.inl ⟨by rfl, ?_⟩) hHeld ?_; rotate_left; focus (intro wS hSw; (obtain ⟨⟨_, _, _⟩, _⟩ := hSw.1.vi.all; obtain ⟨⟨_, _, _⟩, _⟩ := hSw.1.vo.all; obtain ⟨⟨_, _, _⟩, _⟩ := hSw.1.vb.all; obtain ⟨⟨_, _, _⟩, _⟩ := hSw.2.all; have q1 := EI.out; have q2 := EB.out; have q3 := EC.out); go_simp; try with_reducible rfl; done)) | (refine wpAnyH_take (i := 22) (v := undef) nth22 (by kernel_rfl) (by kernel_rfl) (by kernel_rfl) (fun _ _ _ h => h) (Or.inr ⟨by rfl, rfl⟩) hHeld ?_)
        (try simp only [Act.put]); (try simp only [List.setIfInBounds_toArray]); (try simp only [List.set_cons_succ]); (try simp only [List.set_cons_zero])
        first | (refine wpAnyH_take (i := 23) (v := ?_) nth23 (by kernel_rfl) (by kernel_rfl) (by kernel_rfl) (fun _ _ _ h => h) (Or.inl ⟨by rfl, ?_⟩) hHeld ?_; rotate_left; focus (intro wS hSw; (obtain ⟨⟨_, _, _⟩, _⟩ := hSw.1.vi.all; obtain ⟨⟨_, _, _⟩, _⟩ := hSw.1.vo.all; obtain ⟨⟨_, _, _⟩, _⟩ := hSw.1.vb.all; obtain ⟨⟨_, _, _⟩, _⟩ := hSw.2.all; have q1 := EI.out; have q2 := EB.out; have q3 := EC.out); go_simp; try with_reducible rfl; done)) | (refine wpAnyH_take (i := 23) (v := undef) nth23 (by kernel_rfl) (by kernel_rfl) (by kernel_rfl) (fun _ _ _ h => h) (Or.inr ⟨by rfl, rfl⟩) hHeld ?_)
        (try simp only [Act.put]); (try simp only [List.setIfInBounds_toArray]); (try simp only [List.set_cons_succ]); (try simp only [List.set_cons_zero])
        first | (refine wpAnyH_take (i := 24) (v := ?_) nth24 (by kernel_rfl) (by kernel_rfl) (by kernel_rfl) (fun _ _ _ h => h) (Or.inl ⟨by rfl, ?_⟩) hHeld ?_; rotate_left; focus (intro wS hSw; (obtain ⟨⟨_, _, _⟩, _⟩ := hSw.1.vi.all; obtain ⟨⟨_, _, _⟩, _⟩ := hSw.1.vo.all; obtain ⟨⟨_, _, _⟩, _⟩ := hSw.1.vb.all; obtain ⟨⟨_, _, _⟩, _⟩ := hSw.2.all; have q1 := EI.out; have q2 := EB.out; have q3 := EC.out); go_simp; try with_reducible rfl; done)) | (refine wpAnyH_take (i := 24) (v := undef) nth24 (by kernel_rfl) (by kernel_rfl) (by kernel_rfl) (fun _ _ _ h => h) (Or.inr ⟨by rfl, rfl⟩) hHeld ?_)
        (try simp only [Act.put]); (try simp only [List.setIfInBounds_toArray]); (try simp only [List.set_cons_succ]); (try simp only [List.set_cons_zero])
        refine wpAnyH_done (by kernel_rfl) ?_ _
        go_wp2_with fail
        go_ret
        exact ⟨rfl, hHeld.1.hb⟩
end Go.Proofs.Ytlkeghfdpbfhbaa
