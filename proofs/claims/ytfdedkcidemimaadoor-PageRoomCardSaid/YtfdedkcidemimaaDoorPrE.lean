/- Pages of the reference: Parts. -/
import Derived.Test.YtfdedkcidemimaaDoorPrD
import Derived.Test.YtfdedkcidemimaaDoorPmE
namespace Go.Proofs.YtfdedkcidemimaaDoor
set_option linter.unusedVariables false
set_option linter.unusedSimpArgs false
open Go.ChangeShapes Go.WideShapes Go.ChangeAt Go.RowKit

/-- append to a row of the call's own, as one step of a region that draws. -/
theorem step_app {P : Program} {ops : Array Oper} {o : Oper} {a : Act} {w : World} {K : Act → World → Prop} {Q : Exit → Act → World → Prop} {E : Prop} (hgd : o.guard = none) (s x : Operand) (t : TypeId)
    (ho : o.op = .call { callee := .builtin .append, args := #[s, x], argTypes := #[t, t] })
    (base : Nat) (e : TypeId) (i : TypeInfo) (z : Value) (size bytes : Nat) (ht : P.underlying t = some (.slice e)) (hi : P.info? e = some i) (hz : i.zero = some z)
    (hsize : i.size = size) (hby : i.bytes = bytes) (hzs : z.cells.size = size) (hsz : 0 < size)
    (v : Value) (n : Nat) (xs : List Value) (hs : a.eval s = v) (hown : w.ownsRow base e size v n xs)
    (B : Nat) (A : Option Addr) (m c : Nat) (news : List Value) (hx : a.eval x = .slice A m c) (hl : news.length = m * size) (hr : Cells w B A news) (h1 : ∀ u ∈ news, u.oneCell' = true)
    (h63 : n + m ≤ maxLen) (hbytes : (n + m) * bytes ≤ 140737488355328) (hbase : base ≤ w.heap.size) (hnil : A = none → m = 0)
    (h : ∀ v' w', w'.ownsRow base e size v' (n + m) (xs ++ news) → w.grownBy w' v.ownBlock → (v'.ownBlock = v.ownBlock ∨ v'.ownBlock = some w.heap.size) → K (a.put o.dst v') w') :
    if Region.wanted o (yielded ops a.tmps) = true then Oper.wp P o a w K Q else E := by
  have hw : Region.wanted o (yielded ops a.tmps) = true := by simp [Region.wanted, hgd]
  rw [if_pos hw]
  obtain ⟨v', w', hrun, h2, h3, h4⟩ := run_app (P := P) w base t o.type e i z size bytes ht hi hz hsize hby hzs hsz v n xs hown B A m c news hl hr h1 h63 hbytes hbase hnil
  unfold Oper.wp execOp
  simp only [ho, resolve, invoke, builtin, Sem.run_bind, Sem.run_pure, Result.andThen_ok, List.map_toArray, List.map_cons, List.map_nil, hs, hx, hrun]
  exact h v' w' h2 h3 h4
theorem pown_ne {w : World} {B b : Nat} {v u : Value} {l : List ByteArray} {x y z : Int} (ho : OwnS w B v l) (hx : PBx w b x y z u) : v.ownBlock ≠ some b := by
  rcases ho.2 with ⟨rfl, _⟩ | ⟨g, cap, cur, rfl, _, hh, _⟩
  · simp [Value.ownBlock]
  · intro he
    have : g = b := by simpa [Value.ownBlock] using he
    subst this
    unfold PBx at hx
    rw [hx] at hh
    injection hh with hh
    injection hh with _ ht
    exact absurd ht (by decide)
theorem end_p2 {f : Func} {p q : Tmp} (hf : f.results = #[.cell p 46, .tmp q]) {a : Act} {w : World} {b : Nat} {x y z : Int} {v : Value} {Q : Ending → World → Prop} (hp : a.tmps.getD p undef = .pointer (some ⟨b, 0, none⟩)) (hd : a.defers = []) (hx : PBx w b x y z v) {q1 : Value} (h1 : a.tmps.getD q undef = q1)
    (hq : Q (.returned (.tuple #[.agg #[.int .i64 x, .int .i64 y, .int .i64 z, v], q1])) w) : bodyPost Tryd.prog f Q .ret a w := by
  refine bodyPost_ret (v := .tuple #[.agg #[.int .i64 x, .int .i64 y, .int .i64 z, v], q1]) ?_ hd hq
  have hl := run_loadVar_row (P := Tryd.prog) w b 46 46 _ (0, 0) _ hx Tryd.underlying46 rfl (by kernel_rfl)
  have hp' : a.tmps[p]?.getD undef = .pointer (some ⟨b, 0, none⟩) := by simpa using hp
  have h1' : a.tmps[q]?.getD undef = q1 := by simpa using h1
  simp [results, hf, hp', asAddr, hl, h1', Result.andThen]
set_option maxRecDepth 100000 in
set_option maxHeartbeats 2000000 in
theorem parts_c (p : ByteArray) (hm : p.size ≤ 4000) (w : World) : Calls Tryd.prog 50 #[.string p] w (GivesP w p) := by
  have HX0 := hide (pbx_new w 0 0 0 (.slice none 0 0))
  have HB0 := hide (Bel.one w (.cells #[.int .i64 0, .int .i64 0, .int .i64 0, .slice none 0 0] 46))
  by_cases hz : p.size = 512
  · have hne : (p.size : Int) = 512 := by omega
    have q1 := hide (fun W => rnum_c p 4 6 hm (by omega) W)
    have q2 := hide (fun W => rnum_c p 10 1 hm (by omega) W)
    have q3 := hide (fun W => rnum_c p 12 3 hm (by omega) W)
    have q4 := hide (fun W => rnum_c p 15 2 hm (by omega) W)
    have e2 : (getP p 10 1).1 = bN p 10 := getP1 (i := 10) (by omega)
    have e4 : (getP p 15 2).1 = shN p 15 := getP2 (i := 15) (by omega)
    rw [e2] at q2
    rw [e4] at q4
    have hsh := shN_lt p 15
    have hw1 : IntKind.i64.wrap (4 * (shN p 15 : Int)) = 4 * (shN p 15 : Int) := IntWalk.i64_in _ (by omega)
    have hw2 : IntKind.i64.wrap (19 + 4 * (shN p 15 : Int)) = ((19 + 4 * shN p 15 : Nat) : Int) := by rw [IntWalk.i64_in _ (by omega)]; omega
    by_cases hk : bN p 10 ≤ 4
    · have hki : ¬ (4 : Int) < (bN p 10 : Int) := by omega
      by_cases hn : 19 + 4 * shN p 15 ≤ 512
      · have hni : ¬ (512 : Int) < ((19 + 4 * shN p 15 : Nat) : Int) := by omega
        obtain ⟨i0, hi0, hz0, hz1, hz2⟩ := info_parts str_info
        have HRI := hide (fun (hs : SlotsIn p (shN p 15)) => right_iff hz hk hs)
        have HSR := hide (fun (R : RightP p) => slots_right R)
        have HSM := hide (fun (hs : SlotsIn p (shN p 15)) => readC_small hs (by omega))
        have HRD : Hid (readC p = ⟨(getP p 4 6).1, (bN p 10 : Int), (getP p 12 3).1, (List.range (shN p 15)).map (recAt p)⟩) := hide rfl
        have QN := hide (fun i (hi : i < shN p 15) W => (show Calls Tryd.prog 69 #[.string p, .int .i64 ((19 + 4 * i : Nat) : Int), .int .i64 2] W fun e w' => e = .returned (.int .i64 (shN p (19 + 4 * i))) ∧ W = w' from getP2 (p := p) (i := 19 + 4 * i) (by omega) ▸ rnum_c p ((19 + 4 * i : Nat) : Int) 2 hm (by omega) W))
        have QM := hide (fun i (hi : i < shN p 15) W => (show Calls Tryd.prog 69 #[.string p, .int .i64 ((21 + 4 * i : Nat) : Int), .int .i64 2] W fun e w' => e = .returned (.int .i64 (shN p (21 + 4 * i))) ∧ W = w' from getP2 (p := p) (i := 21 + 4 * i) (by omega) ▸ rnum_c p ((21 + 4 * i : Nat) : Int) 2 hm (by omega) W))
        have hb10 := bN_lt p 10
        have HLT := hide (fun i => shN_lt p i)
        have HRL := hide (readC_len p)
        generalize (getP p 4 6).1 = A1 at *
        generalize (getP p 12 3).1 = A3 at *
        generalize bN p 10 = A2 at *
        generalize shN p 15 = N at *
        clear e2 e4 hk
        go_enter Tryd.func50, Tryd.ntmps50
        go_upto_region 1 with (fail)
        generalize w.alloc (.cells #[.int .i64 0, .int .i64 0, .int .i64 0, .slice none 0 0] 46) = w1 at *
        obtain ⟨c0, c1, c2, c3, f0, f1, f2, f3⟩ := HX0.out.cells
        go_wp2_with fail
        refine (q1.out _).mono ?_
        rintro e w2 ⟨rfl, rfl⟩
        go_wp2_with fail
        refine (q2.out _).mono ?_
        rintro e w2 ⟨rfl, rfl⟩
        go_wp2_with fail
        refine (q3.out _).mono ?_
        rintro e w2 ⟨rfl, rfl⟩
        go_upto_region 4 with (fail)
        have HX1 := hide (pbx_new w1 A1 A2 A3 (.slice none 0 0))
        have HXR := hide (HX0.out.alloc (.cells #[.int .i64 A1, .int .i64 A2, .int .i64 A3, .slice none 0 0] 46))
        have HB1 := hide (HB0.out.alloc HB0.out.size (.cells #[.int .i64 A1, .int .i64 A2, .int .i64 A3, .slice none 0 0] 46))
        have hgx : w.heap.size < w1.heap.size := HX0.out.lt
        generalize w1.alloc (.cells #[.int .i64 A1, .int .i64 A2, .int .i64 A3, .slice none 0 0] 46) = w2 at *
        generalize w1.heap.size = gx at *
        clear c0 c1 c2 c3 f0 f1 f2 f3 HX0 HB0
        obtain ⟨c0, c1, c2, c3, f0, f1, f2, f3⟩ := HX1.out.cells
        go_wp2_with fail
        refine (q4.out _).mono ?_
        rintro e w3 ⟨rfl, rfl⟩
        go_wp2_with fail
        clear c0 c1 c2 c3 f0 f1 f2 f3
        have HS0 := hide (show PtS w gx ⟨A1, A2, A3, (List.range 0).map (recAt p)⟩ (.slice none 0 0) w2 from ⟨HX1.out, own_nil _ _, Nat.le_of_lt hgx, HB1.out⟩)
        clear HX1 HB1
        go_loopw [6, 7, 8] (fun i _ _ wr => ∃ k : Nat, k ≤ N ∧ i = .int .i64 k ∧ SlotsIn p k ∧ (∃ v, Hid (PtS w gx ⟨A1, A2, A3, (List.range k).map (recAt p)⟩ v wr)) ∧ Hid (PBx wr w.heap.size 0 0 0 (.slice none 0 0))) (fun i _ _ _ => N - (intOf i).toNat)
        case atStart => exact ⟨0, Nat.zero_le _, rfl, (fun i hi => absurd hi (Nat.not_lt_zero _)), ⟨_, HS0⟩, HXR⟩
        case round =>
          clear HS0 HXR
          obtain ⟨k, hk, rfl, hsl, ⟨v, HS⟩, HXR⟩ := hrel
          obtain ⟨A, cp, rfl, hs2⟩ := HS.out.own.sl
          clear hs2
          have hml : ((List.range k).map (recAt p)).length = k := by simp
          dsimp only at HS
          rw [hml] at HS
          by_cases hlt : k < N
          · have hlti : (k : Int) < N := by omega
            have hwk : IntKind.i64.wrap ((k : Int) + 1) = (k : Int) + 1 := IntWalk.i64_in _ (by omega)
            have hv1 : IntKind.i64.wrap (4 * (k : Int)) = 4 * (k : Int) := IntWalk.i64_in _ (by omega)
            have hv2 : IntKind.i64.wrap (19 + 4 * (k : Int)) = ((19 + 4 * k : Nat) : Int) := by rw [IntWalk.i64_in _ (by omega)]; omega
            have hv3 : IntKind.i64.wrap (((19 + 4 * k : Nat) : Int) + 2) = ((21 + 4 * k : Nat) : Int) := by rw [IntWalk.i64_in _ (by omega)]; omega
            have QA := hide (fun W => QN.out k hlt W)
            have QB := hide (fun W => QM.out k hlt W)
            have hl1 := HLT.out (19 + 4 * k)
            have hl2 := HLT.out (21 + 4 * k)
            have hpush : (List.range (k + 1)).map (recAt p) = (List.range k).map (recAt p) ++ [recAt p k] := by rw [List.range_succ, List.map_append]; rfl
            obtain ⟨u, hu⟩ : ∃ u, recAt p k = u := ⟨_, rfl⟩
            rw [hu] at hpush
            have hu2 : p.extract (shN p (19 + 4 * k)) (shN p (19 + 4 * k) + shN p (21 + 4 * k)) = u := hu
            have HNO := hide (fun (h : ¬ (shN p (19 + 4 * k) + shN p (21 + 4 * k) ≤ 512 ∧ shN p (21 + 4 * k) ≤ 400)) => (show rightB p = false from right_not (fun R => h (HSR.out R k hlt))))
            have HSL := hide (fun (h : shN p (19 + 4 * k) + shN p (21 + 4 * k) ≤ 512 ∧ shN p (21 + 4 * k) ≤ 400) => slotsIn_succ hsl h)
            generalize hg1 : 19 + 4 * k = j1 at *
            generalize hg2 : 21 + 4 * k = j2 at *
            generalize shN p j1 = a at *
            generalize shN p j2 = z at *
            obtain ⟨ab, hab⟩ : ∃ ab, a + z = ab := ⟨_, rfl⟩
            have hv4 : IntKind.i64.wrap ((a : Int) + (z : Int)) = (ab : Int) := by rw [IntWalk.i64_in _ (by omega)]; omega
            rw [hab] at hu2 HNO HSL
            have HPU := hide hpush
            have HU := hide hu
            have HML := hide hml
            clear hpush hu hml hg1 hg2 hsl HSR QN QM
            obtain ⟨c0, c1, c2, c3, f0, f1, f2, f3⟩ := HS.out.bx.cells
            obtain ⟨d0, d1, d2, d3, y0, y1, y2, y3⟩ := HXR.out.cells
            dsimp only at c0 c1 c2
            go_wp2_with fail
            refine (QA.out _).mono ?_
            rintro e w6 ⟨rfl, rfl⟩
            go_wp2_with fail
            refine (QB.out _).mono ?_
            rintro e w6 ⟨rfl, rfl⟩
            by_cases hA : ab ≤ 512
            · have hAi : ¬ (512 : Int) < (ab : Int) := by omega
              by_cases hZ : z ≤ 400
              · have hZi : ¬ (400 : Int) < (z : Int) := by omega
                have hsl2 := HSL.out ⟨hA, hZ⟩
                have s1 := fun W => cut_str p a ab (by omega) (by omega) W
                rw [hu2] at s1
                clear hu2 hab
                go_upto_region 13 with (fail)
                refine wp_region_held_drew (S := fun _ => True) (by kernel_rfl) trivial (fun hHeld => ?_)
                clear hHeld
                have HSd := hide (HS.out.kept (Below.refl _ _).drew)
                have HRd := hide (HXR.out.kept (Below.refl _ _).drew)
                generalize wr.drew = wd at *
                clear c0 c1 c2 c3 f0 f1 f2 f3 d0 d1 d2 d3 y0 y1 y2 y3 HS HXR
                obtain ⟨c0, c1, c2, c3, f0, f1, f2, f3⟩ := HSd.out.bx.cells
                dsimp only at c0 c1 c2
                have HLC := hide (show Cells (wd.alloc (.cells #[.string u] 9)) (wd.heap.size + 1) (some ⟨wd.heap.size, 0, none⟩) [.string u] from cells_lit wd _ _)
                have HS1 := hide (HSd.out.kept (Bel.one wd (.cells #[.string u] 9)))
                have HR1 := hide (HRd.out.kept (Bel.one wd (.cells #[.string u] 9)))
                obtain ⟨d0, d1, d2, d3, y0, y1, y2, y3⟩ := HS1.out.bx.cells
                dsimp only at d0 d1 d2
                have ho1 := HS1.out.own
                unfold OwnS at ho1
                dsimp only at ho1
                rw [HML.out] at ho1
                have HO1 := hide ho1
                clear ho1
                first | (refine wpAnyH_take (i := 0) (v := ?_) nth0 (by kernel_rfl) (by kernel_rfl) (by kernel_rfl) (fun _ _ _ h => h) (Or.inl ⟨by rfl, ?_⟩) trivial ?_; rotate_left; focus (intro wS hSw; go_simp; try with_reducible rfl; done)) | (refine wpAnyH_take (i := 0) (v := undef) nth0 (by kernel_rfl) (by kernel_rfl) (by kernel_rfl) (fun _ _ _ h => h) (Or.inr ⟨by rfl, rfl⟩) trivial ?_)
                (try simp only [Act.put]); (try simp only [List.setIfInBounds_toArray]); (try simp only [List.set_cons_succ]); (try simp only [List.set_cons_zero])
                first | (refine wpAnyH_take (i := 2) (v := ?_) nth2 (by kernel_rfl) (by kernel_rfl) (by kernel_rfl) (fun _ _ _ h => h) (Or.inl ⟨by rfl, ?_⟩) trivial ?_; rotate_left; focus (intro wS hSw; go_simp; try with_reducible rfl; done)) | (refine wpAnyH_take (i := 2) (v := undef) nth2 (by kernel_rfl) (by kernel_rfl) (by kernel_rfl) (fun _ _ _ h => h) (Or.inr ⟨by rfl, rfl⟩) trivial ?_)
                (try simp only [Act.put]); (try simp only [List.setIfInBounds_toArray]); (try simp only [List.set_cons_succ]); (try simp only [List.set_cons_zero])
                first | (refine wpAnyH_take (i := 3) (v := ?_) nth3 (by kernel_rfl) (by kernel_rfl) (by kernel_rfl) (fun _ _ _ h => h) (Or.inl ⟨by rfl, ?_⟩) trivial ?_; rotate_left; focus (intro wS hSw; go_simp; try with_reducible rfl; done)) | (refine wpAnyH_take (i := 3) (v := undef) nth3 (by kernel_rfl) (by kernel_rfl) (by kernel_rfl) (fun _ _ _ h => h) (Or.inr ⟨by rfl, rfl⟩) trivial ?_)
                (try simp only [Act.put]); (try simp only [List.setIfInBounds_toArray]); (try simp only [List.set_cons_succ]); (try simp only [List.set_cons_zero])
                first | (refine wpAnyH_take (i := 4) (v := ?_) nth4 (by kernel_rfl) (by kernel_rfl) (by kernel_rfl) (fun _ _ _ h => h) (Or.inl ⟨by rfl, ?_⟩) trivial ?_; rotate_left; focus (intro wS hSw; go_simp; try with_reducible rfl; done)) | (refine wpAnyH_take (i := 4) (v := undef) nth4 (by kernel_rfl) (by kernel_rfl) (by kernel_rfl) (fun _ _ _ h => h) (Or.inr ⟨by rfl, rfl⟩) trivial ?_)
                (try simp only [Act.put]); (try simp only [List.setIfInBounds_toArray]); (try simp only [List.set_cons_succ]); (try simp only [List.set_cons_zero])
                first | (refine wpAnyH_take (i := 5) (v := ?_) nth5 (by kernel_rfl) (by kernel_rfl) (by kernel_rfl) (fun _ _ _ h => h) (Or.inl ⟨by rfl, ?_⟩) trivial ?_; rotate_left; focus (intro wS hSw; go_simp; try with_reducible rfl; done)) | (refine wpAnyH_take (i := 5) (v := undef) nth5 (by kernel_rfl) (by kernel_rfl) (by kernel_rfl) (fun _ _ _ h => h) (Or.inr ⟨by rfl, rfl⟩) trivial ?_)
                (try simp only [Act.put]); (try simp only [List.setIfInBounds_toArray]); (try simp only [List.set_cons_succ]); (try simp only [List.set_cons_zero])
                first | (refine wpAnyH_take (i := 6) (v := ?_) nth6 (by kernel_rfl) (by kernel_rfl) (by kernel_rfl) (fun _ _ _ h => h) (Or.inl ⟨by rfl, ?_⟩) trivial ?_; rotate_left; focus (intro wS hSw; go_simp; try with_reducible rfl; done)) | (refine wpAnyH_take (i := 6) (v := undef) nth6 (by kernel_rfl) (by kernel_rfl) (by kernel_rfl) (fun _ _ _ h => h) (Or.inr ⟨by rfl, rfl⟩) trivial ?_)
                (try simp only [Act.put]); (try simp only [List.setIfInBounds_toArray]); (try simp only [List.set_cons_succ]); (try simp only [List.set_cons_zero])
                first | (refine wpAnyH_take (i := 7) (v := ?_) nth7 (by kernel_rfl) (by kernel_rfl) (by kernel_rfl) (fun _ _ _ h => h) (Or.inl ⟨by rfl, ?_⟩) trivial ?_; rotate_left; focus (intro wS hSw; go_simp; try with_reducible rfl; done)) | (refine wpAnyH_take (i := 7) (v := undef) nth7 (by kernel_rfl) (by kernel_rfl) (by kernel_rfl) (fun _ _ _ h => h) (Or.inr ⟨by rfl, rfl⟩) trivial ?_)
                (try simp only [Act.put]); (try simp only [List.setIfInBounds_toArray]); (try simp only [List.set_cons_succ]); (try simp only [List.set_cons_zero])
                refine wpAnyH_ready (rs := [1, 8]) (by kernel_rfl) (by simp) ?_
                refine AllReadyH.cons nth1 (fun K hK => ?_) (AllReadyH.cons nth8 (fun K hK => ?_) AllReadyH.nil)
                · go_simp
                  refine hK.out _ _ trivial (fun _ => ?_)
                  clear hK K
                  (try simp only [Act.put]); (try simp only [List.setIfInBounds_toArray]); (try simp only [List.set_cons_succ]); (try simp only [List.set_cons_zero])
                  refine wpAnyH_ready (rs := [8]) (by kernel_rfl) (by simp) ?_
                  refine AllReadyH.cons nth8 (fun K hK => ?_) AllReadyH.nil
                  go_simp
                  refine hK.out _ _ trivial (fun _ => ?_)
                  clear hK K
                  (try simp only [Act.put]); (try simp only [List.setIfInBounds_toArray]); (try simp only [List.set_cons_succ]); (try simp only [List.set_cons_zero])
                  refine wpAnyH_ready (rs := [9]) (by kernel_rfl) (by simp) ?_
                  refine AllReadyH.cons nth9 (fun K hK => ?_) AllReadyH.nil
                  refine step_app rfl (.tmp 59) (.tmp 66) 37 rfl w.heap.size 9 i0 _ 1 16 Tryd.underlying37 hi0 hz0 hz1 hz2 rfl (by omega) _ k _ rfl HO1.out _ _ 1 1 [.string u] rfl rfl HLC.out (by simp [Value.oneCell']) (by unfold maxLen; omega) (by omega) HS1.out.hb.size (by simp) ?_
                  intro v5 w5 hown5 hg5 hat5
                  obtain ⟨A5, c5, rfl, hc5, hA5, _⟩ := own_form hown5
                  have hg6 : World.grownBy _ w5 (Value.slice A k cp).ownBlock := hg5
                  have hat6 : (Value.slice A5 (k + 1) c5).ownBlock = (Value.slice A k cp).ownBlock ∨ _ := hat5
                  have hst := HS1.out.step (OwnS.of_app HML.out hown5) hg6 hat6
                  have HS2 := hide hst.2
                  have HX2 := hide hst.1
                  have HR2 := hide (HR1.out.grown hg6 (fun e => pown_ne HS1.out.own HR1.out e.symm))
                  clear hown5 hg5 hat5 hg6 hat6 hst HO1 c0 c1 c2 c3 f0 f1 f2 f3 d0 d1 d2 d3 y0 y1 y2 y3
                  refine hK.out _ _ trivial (fun _ => ?_)
                  clear hK K
                  (try simp only [Act.put]); (try simp only [List.setIfInBounds_toArray]); (try simp only [List.set_cons_succ]); (try simp only [List.set_cons_zero])
                  first | (refine wpAnyH_take (i := 10) (v := ?_) nth10 (by kernel_rfl) (by kernel_rfl) (by kernel_rfl) (fun _ _ _ h => h) (Or.inl ⟨by rfl, ?_⟩) trivial ?_; rotate_left; focus (intro wS hSw; go_simp; try with_reducible rfl; done)) | (refine wpAnyH_take (i := 10) (v := undef) nth10 (by kernel_rfl) (by kernel_rfl) (by kernel_rfl) (fun _ _ _ h => h) (Or.inr ⟨by rfl, rfl⟩) trivial ?_)
                  (try simp only [Act.put]); (try simp only [List.setIfInBounds_toArray]); (try simp only [List.set_cons_succ]); (try simp only [List.set_cons_zero])
                  refine wpAnyH_ready (rs := [11]) (by kernel_rfl) (by simp) ?_
                  refine AllReadyH.cons nth11 (fun K hK => ?_) AllReadyH.nil
                  obtain ⟨c0, c1, c2, c3, f0, f1, f2, f3⟩ := HX2.out.cells
                  have HR3 := hide (HR2.out.far (p := ⟨gx, 3, none⟩) (Nat.ne_of_lt hgx) (.slice A5 (k + 1) c5))
                  go_simp
                  refine hK.out _ _ trivial (fun _ => ?_)
                  clear hK K
                  (try simp only [Act.put]); (try simp only [List.setIfInBounds_toArray]); (try simp only [List.set_cons_succ]); (try simp only [List.set_cons_zero])
                  refine wpAnyH_done (by kernel_rfl) ?_ _
                  clear c0 c1 c2 c3 f0 f1 f2 f3 HS1 HR1 HR2 HX2 HLC HSd HRd
                  generalize w5.setCell ⟨gx, 3, none⟩ _ = w6 at *
                  go_wp2_with fail
                  go_roundw
                  case rel => exact ⟨k + 1, by omega, by go_num, hsl2, ⟨_, by rw [HPU.out]; exact HS2⟩, HR3⟩
                  case measure => simp [intOf]; omega
                · go_simp
                  refine hK.out _ _ trivial (fun _ => ?_)
                  clear hK K
                  (try simp only [Act.put]); (try simp only [List.setIfInBounds_toArray]); (try simp only [List.set_cons_succ]); (try simp only [List.set_cons_zero])
                  refine wpAnyH_ready (rs := [1]) (by kernel_rfl) (by simp) ?_
                  refine AllReadyH.cons nth1 (fun K hK => ?_) AllReadyH.nil
                  go_simp
                  refine hK.out _ _ trivial (fun _ => ?_)
                  clear hK K
                  (try simp only [Act.put]); (try simp only [List.setIfInBounds_toArray]); (try simp only [List.set_cons_succ]); (try simp only [List.set_cons_zero])
                  refine wpAnyH_ready (rs := [9]) (by kernel_rfl) (by simp) ?_
                  refine AllReadyH.cons nth9 (fun K hK => ?_) AllReadyH.nil
                  refine step_app rfl (.tmp 59) (.tmp 66) 37 rfl w.heap.size 9 i0 _ 1 16 Tryd.underlying37 hi0 hz0 hz1 hz2 rfl (by omega) _ k _ rfl HO1.out _ _ 1 1 [.string u] rfl rfl HLC.out (by simp [Value.oneCell']) (by unfold maxLen; omega) (by omega) HS1.out.hb.size (by simp) ?_
                  intro v5 w5 hown5 hg5 hat5
                  obtain ⟨A5, c5, rfl, hc5, hA5, _⟩ := own_form hown5
                  have hg6 : World.grownBy _ w5 (Value.slice A k cp).ownBlock := hg5
                  have hat6 : (Value.slice A5 (k + 1) c5).ownBlock = (Value.slice A k cp).ownBlock ∨ _ := hat5
                  have hst := HS1.out.step (OwnS.of_app HML.out hown5) hg6 hat6
                  have HS2 := hide hst.2
                  have HX2 := hide hst.1
                  have HR2 := hide (HR1.out.grown hg6 (fun e => pown_ne HS1.out.own HR1.out e.symm))
                  clear hown5 hg5 hat5 hg6 hat6 hst HO1 c0 c1 c2 c3 f0 f1 f2 f3 d0 d1 d2 d3 y0 y1 y2 y3
                  refine hK.out _ _ trivial (fun _ => ?_)
                  clear hK K
                  (try simp only [Act.put]); (try simp only [List.setIfInBounds_toArray]); (try simp only [List.set_cons_succ]); (try simp only [List.set_cons_zero])
                  first | (refine wpAnyH_take (i := 10) (v := ?_) nth10 (by kernel_rfl) (by kernel_rfl) (by kernel_rfl) (fun _ _ _ h => h) (Or.inl ⟨by rfl, ?_⟩) trivial ?_; rotate_left; focus (intro wS hSw; go_simp; try with_reducible rfl; done)) | (refine wpAnyH_take (i := 10) (v := undef) nth10 (by kernel_rfl) (by kernel_rfl) (by kernel_rfl) (fun _ _ _ h => h) (Or.inr ⟨by rfl, rfl⟩) trivial ?_)
                  (try simp only [Act.put]); (try simp only [List.setIfInBounds_toArray]); (try simp only [List.set_cons_succ]); (try simp only [List.set_cons_zero])
                  refine wpAnyH_ready (rs := [11]) (by kernel_rfl) (by simp) ?_
                  refine AllReadyH.cons nth11 (fun K hK => ?_) AllReadyH.nil
                  obtain ⟨c0, c1, c2, c3, f0, f1, f2, f3⟩ := HX2.out.cells
                  have HR3 := hide (HR2.out.far (p := ⟨gx, 3, none⟩) (Nat.ne_of_lt hgx) (.slice A5 (k + 1) c5))
                  go_simp
                  refine hK.out _ _ trivial (fun _ => ?_)
                  clear hK K
                  (try simp only [Act.put]); (try simp only [List.setIfInBounds_toArray]); (try simp only [List.set_cons_succ]); (try simp only [List.set_cons_zero])
                  refine wpAnyH_done (by kernel_rfl) ?_ _
                  clear c0 c1 c2 c3 f0 f1 f2 f3 HS1 HR1 HR2 HX2 HLC HSd HRd
                  generalize w5.setCell ⟨gx, 3, none⟩ _ = w6 at *
                  go_wp2_with fail
                  go_roundw
                  case rel => exact ⟨k + 1, by omega, by go_num, hsl2, ⟨_, by rw [HPU.out]; exact HS2⟩, HR3⟩
                  case measure => simp [intOf]; omega
              · have hZi : (400 : Int) < (z : Int) := by omega
                have HNR := hide (HNO.out (by omega))
                have HS3 := hide HS.out.hb
                have HR4 := hide (HXR.out.set4 0 0 0 (.slice none 0 0))
                have HB4 := hide (pbelow_set4 HS.out.hb (Nat.le_refl w.heap.size) (.int .i64 0) (.int .i64 0) (.int .i64 0) (.slice none 0 0))
                go_wp2_with fail
                refine end_p2 Tryd.results50 rfl rfl HR4.out rfl ?_
                exact ⟨0, 0, 0, none, 0, 0, by rw [HNR.out]; rfl, HB4.out, fun h => by rw [HNR.out] at h; cases h⟩
            · have hAi : (512 : Int) < (ab : Int) := by omega
              have HNR := hide (HNO.out (by omega))
              have HS3 := hide HS.out.hb
              have HR4 := hide (HXR.out.set4 0 0 0 (.slice none 0 0))
              have HB4 := hide (pbelow_set4 HS.out.hb (Nat.le_refl w.heap.size) (.int .i64 0) (.int .i64 0) (.int .i64 0) (.slice none 0 0))
              go_wp2_with fail
              refine end_p2 Tryd.results50 rfl rfl HR4.out rfl ?_
              exact ⟨0, 0, 0, none, 0, 0, by rw [HNR.out]; rfl, HB4.out, fun h => by rw [HNR.out] at h; cases h⟩
          · have hlti : ¬ (k : Int) < N := by omega
            obtain rfl : k = N := by omega
            have hc : readC p = ⟨A1, (A2 : Int), A3, (List.range k).map (recAt p)⟩ := HRD.out
            have hsm := HSM.out hsl
            have hri := HRI.out hsl
            rw [hc] at hsm hri
            dsimp only at hsm
            have QL := hide (fun W hW => rlay_c A1 A2 A3 A k cp ((List.range k).map (recAt p)) W hW hsm (by omega))
            obtain ⟨QV, hQV⟩ : ∃ QV, layR ⟨A1, (A2 : Int), A3, (List.range k).map (recAt p)⟩ = QV := ⟨_, rfl⟩
            rw [hQV] at QL hri
            have HRI2 := hide hri
            obtain ⟨c0, c1, c2, c3, f0, f1, f2, f3⟩ := HS.out.bx.cells
            dsimp only at c0 c1 c2
            clear hri hsm hQV HRI HSM
            go_wp2_with fail
            refine (QL.out _ HS.out.sl).mono ?_
            rintro e w7 ⟨rfl, hb⟩
            have HS7 := hide (HS.out.kept hb)
            have HX7 := hide (HXR.out.kept hb)
            clear hb c0 c1 c2 c3 f0 f1 f2 f3 HS HXR
            have HC := hide hc
            clear hc
            by_cases hq : QV.size = 512
            · have hq2 : (QV.size : Int) = 512 := by omega
              have hq4 : (4 : Int) ≤ QV.size := by omega
              have hp4 : (4 : Int) ≤ p.size := by omega
              obtain ⟨bb, hbb⟩ : ∃ bb, ((QV.extract 4 512).toList == (p.extract 4 512).toList) = bb := ⟨_, rfl⟩
              have hrb : rightB p = bb := by
                have hi := HRI2.out
                have e1 : (QV.extract 4 512).toList = QV.data.toList.drop 4 := by rw [toList_bl, bl_cut, List.take_of_length_le (by rw [List.length_drop, bl_len]; omega)]
                have e2 : (p.extract 4 512).toList = p.data.toList.drop 4 := by rw [toList_bl, bl_cut, List.take_of_length_le (by rw [List.length_drop, bl_len]; omega)]
                rw [e1, e2] at hbb
                cases bb with
                | true => exact (rightP_iff p).mpr (hi.mpr ⟨hq, by simpa using hbb⟩)
                | false => exact right_not (fun R => by have h2 := (hi.mp R).2; rw [h2] at hbb; simp at hbb)
              have HRB := hide hrb
              clear hrb
              go_upto_region 15 with (fail)
              refine wp_region_held_drew (S := (fun w' => PBx w' gx A1 A2 A3 (.slice A k cp) ∧ (∃ a b c v, PBx w' w.heap.size a b c v))) (by kernel_rfl) (⟨HS7.out.bx.kept (Below.refl _ _).drew, ⟨_, _, _, _, HX7.out.kept (Below.refl _ _).drew⟩⟩) (fun hHeld => ?_)
              first | (refine wpAnyH_take (i := 0) (v := ?_) nth0 (by kernel_rfl) (by kernel_rfl) (by kernel_rfl) (fun _ _ _ h => h) (Or.inl ⟨by rfl, ?_⟩) hHeld ?_; rotate_left; focus (intro wS hSw; (obtain ⟨c0, c1, c2, c3, f0, f1, f2, f3⟩ := hSw.1.cells); go_simp; try with_reducible rfl; done)) | (refine wpAnyH_take (i := 0) (v := undef) nth0 (by kernel_rfl) (by kernel_rfl) (by kernel_rfl) (fun _ _ _ h => h) (Or.inr ⟨by rfl, rfl⟩) hHeld ?_)
              (try simp only [Act.put]); (try simp only [List.setIfInBounds_toArray]); (try simp only [List.set_cons_succ]); (try simp only [List.set_cons_zero])
              first | (refine wpAnyH_take (i := 1) (v := ?_) nth1 (by kernel_rfl) (by kernel_rfl) (by kernel_rfl) (fun _ _ _ h => h) (Or.inl ⟨by rfl, ?_⟩) hHeld ?_; rotate_left; focus (intro wS hSw; (obtain ⟨c0, c1, c2, c3, f0, f1, f2, f3⟩ := hSw.1.cells); go_simp; try with_reducible rfl; done)) | (refine wpAnyH_take (i := 1) (v := undef) nth1 (by kernel_rfl) (by kernel_rfl) (by kernel_rfl) (fun _ _ _ h => h) (Or.inr ⟨by rfl, rfl⟩) hHeld ?_)
              (try simp only [Act.put]); (try simp only [List.setIfInBounds_toArray]); (try simp only [List.set_cons_succ]); (try simp only [List.set_cons_zero])
              first | (refine wpAnyH_take (i := 2) (v := ?_) nth2 (by kernel_rfl) (by kernel_rfl) (by kernel_rfl) (fun _ _ _ h => h) (Or.inl ⟨by rfl, ?_⟩) hHeld ?_; rotate_left; focus (intro wS hSw; (obtain ⟨c0, c1, c2, c3, f0, f1, f2, f3⟩ := hSw.1.cells); go_simp; try with_reducible rfl; done)) | (refine wpAnyH_take (i := 2) (v := undef) nth2 (by kernel_rfl) (by kernel_rfl) (by kernel_rfl) (fun _ _ _ h => h) (Or.inr ⟨by rfl, rfl⟩) hHeld ?_)
              (try simp only [Act.put]); (try simp only [List.setIfInBounds_toArray]); (try simp only [List.set_cons_succ]); (try simp only [List.set_cons_zero])
              first | (refine wpAnyH_take (i := 3) (v := ?_) nth3 (by kernel_rfl) (by kernel_rfl) (by kernel_rfl) (fun _ _ _ h => h) (Or.inl ⟨by rfl, ?_⟩) hHeld ?_; rotate_left; focus (intro wS hSw; (obtain ⟨c0, c1, c2, c3, f0, f1, f2, f3⟩ := hSw.1.cells); go_simp; try with_reducible rfl; done)) | (refine wpAnyH_take (i := 3) (v := undef) nth3 (by kernel_rfl) (by kernel_rfl) (by kernel_rfl) (fun _ _ _ h => h) (Or.inr ⟨by rfl, rfl⟩) hHeld ?_)
              (try simp only [Act.put]); (try simp only [List.setIfInBounds_toArray]); (try simp only [List.set_cons_succ]); (try simp only [List.set_cons_zero])
              first | (refine wpAnyH_take (i := 4) (v := ?_) nth4 (by kernel_rfl) (by kernel_rfl) (by kernel_rfl) (fun _ _ _ h => h) (Or.inl ⟨by rfl, ?_⟩) hHeld ?_; rotate_left; focus (intro wS hSw; (obtain ⟨c0, c1, c2, c3, f0, f1, f2, f3⟩ := hSw.1.cells); go_simp; try with_reducible rfl; done)) | (refine wpAnyH_take (i := 4) (v := undef) nth4 (by kernel_rfl) (by kernel_rfl) (by kernel_rfl) (fun _ _ _ h => h) (Or.inr ⟨by rfl, rfl⟩) hHeld ?_)
              (try simp only [Act.put]); (try simp only [List.setIfInBounds_toArray]); (try simp only [List.set_cons_succ]); (try simp only [List.set_cons_zero])
              first | (refine wpAnyH_take (i := 5) (v := ?_) nth5 (by kernel_rfl) (by kernel_rfl) (by kernel_rfl) (fun _ _ _ h => h) (Or.inl ⟨by rfl, ?_⟩) hHeld ?_; rotate_left; focus (intro wS hSw; (obtain ⟨c0, c1, c2, c3, f0, f1, f2, f3⟩ := hSw.1.cells); go_simp; try with_reducible rfl; done)) | (refine wpAnyH_take (i := 5) (v := undef) nth5 (by kernel_rfl) (by kernel_rfl) (by kernel_rfl) (fun _ _ _ h => h) (Or.inr ⟨by rfl, rfl⟩) hHeld ?_)
              (try simp only [Act.put]); (try simp only [List.setIfInBounds_toArray]); (try simp only [List.set_cons_succ]); (try simp only [List.set_cons_zero])
              first | (refine wpAnyH_take (i := 6) (v := ?_) nth6 (by kernel_rfl) (by kernel_rfl) (by kernel_rfl) (fun _ _ _ h => h) (Or.inl ⟨by rfl, ?_⟩) hHeld ?_; rotate_left; focus (intro wS hSw; (obtain ⟨c0, c1, c2, c3, f0, f1, f2, f3⟩ := hSw.1.cells); go_simp; try with_reducible rfl; done)) | (refine wpAnyH_take (i := 6) (v := undef) nth6 (by kernel_rfl) (by kernel_rfl) (by kernel_rfl) (fun _ _ _ h => h) (Or.inr ⟨by rfl, rfl⟩) hHeld ?_)
              (try simp only [Act.put]); (try simp only [List.setIfInBounds_toArray]); (try simp only [List.set_cons_succ]); (try simp only [List.set_cons_zero])
              first | (refine wpAnyH_take (i := 7) (v := ?_) nth7 (by kernel_rfl) (by kernel_rfl) (by kernel_rfl) (fun _ _ _ h => h) (Or.inl ⟨by rfl, ?_⟩) hHeld ?_; rotate_left; focus (intro wS hSw; (obtain ⟨c0, c1, c2, c3, f0, f1, f2, f3⟩ := hSw.1.cells); go_simp; try with_reducible rfl; done)) | (refine wpAnyH_take (i := 7) (v := undef) nth7 (by kernel_rfl) (by kernel_rfl) (by kernel_rfl) (fun _ _ _ h => h) (Or.inr ⟨by rfl, rfl⟩) hHeld ?_)
              (try simp only [Act.put]); (try simp only [List.setIfInBounds_toArray]); (try simp only [List.set_cons_succ]); (try simp only [List.set_cons_zero])
              first | (refine wpAnyH_take (i := 8) (v := ?_) nth8 (by kernel_rfl) (by kernel_rfl) (by kernel_rfl) (fun _ _ _ h => h) (Or.inl ⟨by rfl, ?_⟩) hHeld ?_; rotate_left; focus (intro wS hSw; (obtain ⟨c0, c1, c2, c3, f0, f1, f2, f3⟩ := hSw.1.cells); go_simp; try with_reducible rfl; done)) | (refine wpAnyH_take (i := 8) (v := undef) nth8 (by kernel_rfl) (by kernel_rfl) (by kernel_rfl) (fun _ _ _ h => h) (Or.inr ⟨by rfl, rfl⟩) hHeld ?_)
              (try simp only [Act.put]); (try simp only [List.setIfInBounds_toArray]); (try simp only [List.set_cons_succ]); (try simp only [List.set_cons_zero])
              first | (refine wpAnyH_take (i := 9) (v := ?_) nth9 (by kernel_rfl) (by kernel_rfl) (by kernel_rfl) (fun _ _ _ h => h) (Or.inl ⟨by rfl, ?_⟩) hHeld ?_; rotate_left; focus (intro wS hSw; (obtain ⟨c0, c1, c2, c3, f0, f1, f2, f3⟩ := hSw.1.cells); go_simp; try with_reducible rfl; done)) | (refine wpAnyH_take (i := 9) (v := undef) nth9 (by kernel_rfl) (by kernel_rfl) (by kernel_rfl) (fun _ _ _ h => h) (Or.inr ⟨by rfl, rfl⟩) hHeld ?_)
              (try simp only [Act.put]); (try simp only [List.setIfInBounds_toArray]); (try simp only [List.set_cons_succ]); (try simp only [List.set_cons_zero])
              first | (refine wpAnyH_take (i := 10) (v := ?_) nth10 (by kernel_rfl) (by kernel_rfl) (by kernel_rfl) (fun _ _ _ h => h) (Or.inl ⟨by rfl, ?_⟩) hHeld ?_; rotate_left; focus (intro wS hSw; (obtain ⟨c0, c1, c2, c3, f0, f1, f2, f3⟩ := hSw.1.cells); go_simp; try with_reducible rfl; done)) | (refine wpAnyH_take (i := 10) (v := undef) nth10 (by kernel_rfl) (by kernel_rfl) (by kernel_rfl) (fun _ _ _ h => h) (Or.inr ⟨by rfl, rfl⟩) hHeld ?_)
              (try simp only [Act.put]); (try simp only [List.setIfInBounds_toArray]); (try simp only [List.set_cons_succ]); (try simp only [List.set_cons_zero])
              refine wpAnyH_ready (rs := [11]) (by kernel_rfl) (by simp) ?_
              refine AllReadyH.cons nth11 (fun K hK => ?_) AllReadyH.nil
              have HSd := hide (HS7.out.kept (Below.refl _ _).drew)
              have HXd := hide (HX7.out.kept (Below.refl _ _).drew)
              obtain ⟨d0, d1, d2, d3, y0, y1, y2, y3⟩ := HX7.out.cells
              have HX9 := hide (HXd.out.set4 A1 A2 A3 (.slice A k cp))
              have HB9 := hide (pbelow_set4 HSd.out.hb (Nat.le_refl w.heap.size) (.int .i64 A1) (.int .i64 A2) (.int .i64 A3) (.slice A k cp))
              have HO9 := hide (HSd.out.own.pfar4 HXd.out A1 A2 A3 (.slice A k cp))
              have HG9 := hide (HSd.out.bx.far4 (b := w.heap.size) (Nat.ne_of_gt hgx) (.int .i64 A1) (.int .i64 A2) (.int .i64 A3) (.slice A k cp))
              go_simp
              refine hK.out _ _ (⟨HG9.out, ⟨_, _, _, _, HX9.out⟩⟩) (fun hHeld => ?_)
              clear hK K
              (try simp only [Act.put]); (try simp only [List.setIfInBounds_toArray]); (try simp only [List.set_cons_succ]); (try simp only [List.set_cons_zero])
              first | (refine wpAnyH_take (i := 12) (v := ?_) nth12 (by kernel_rfl) (by kernel_rfl) (by kernel_rfl) (fun _ _ _ h => h) (Or.inl ⟨by rfl, ?_⟩) hHeld ?_; rotate_left; focus (intro wS hSw; (obtain ⟨c0, c1, c2, c3, f0, f1, f2, f3⟩ := hSw.1.cells); go_simp; try with_reducible rfl; done)) | (refine wpAnyH_take (i := 12) (v := undef) nth12 (by kernel_rfl) (by kernel_rfl) (by kernel_rfl) (fun _ _ _ h => h) (Or.inr ⟨by rfl, rfl⟩) hHeld ?_)
              (try simp only [Act.put]); (try simp only [List.setIfInBounds_toArray]); (try simp only [List.set_cons_succ]); (try simp only [List.set_cons_zero])
              refine wpAnyH_done (by kernel_rfl) ?_ _
              clear hHeld
              go_wp2_with fail
              refine end_p2 Tryd.results50 rfl rfl HX9.out rfl ?_
              refine ⟨A1, A2, A3, A, k, cp, by rw [HRB.out]; rfl, HB9.out, fun _ => ?_⟩
              rw [HC.out]
              exact ⟨rfl, rfl, rfl, by simp, HO9.out⟩
            · have hq2 : ¬ (QV.size : Int) = 512 := by omega
              have hq3 : ((QV.size : Int) == 512) = false := by simp; omega
              obtain ⟨bb, hbb⟩ : ∃ bb, false = bb := ⟨_, rfl⟩
              have hrb : rightB p = bb := hbb ▸ right_not (fun R => hq (HRI2.out.mp R).1)
              have HRB := hide hrb
              subst hbb
              clear hrb
              go_upto_region 15 with (fail)
              refine wp_region_held_drew (S := (fun w' => PBx w' gx A1 A2 A3 (.slice A k cp) ∧ (∃ a b c v, PBx w' w.heap.size a b c v))) (by kernel_rfl) (⟨HS7.out.bx.kept (Below.refl _ _).drew, ⟨_, _, _, _, HX7.out.kept (Below.refl _ _).drew⟩⟩) (fun hHeld => ?_)
              first | (refine wpAnyH_take (i := 0) (v := ?_) nth0 (by kernel_rfl) (by kernel_rfl) (by kernel_rfl) (fun _ _ _ h => h) (Or.inl ⟨by rfl, ?_⟩) hHeld ?_; rotate_left; focus (intro wS hSw; (obtain ⟨c0, c1, c2, c3, f0, f1, f2, f3⟩ := hSw.1.cells); go_simp; try with_reducible rfl; done)) | (refine wpAnyH_take (i := 0) (v := undef) nth0 (by kernel_rfl) (by kernel_rfl) (by kernel_rfl) (fun _ _ _ h => h) (Or.inr ⟨by rfl, rfl⟩) hHeld ?_)
              (try simp only [Act.put]); (try simp only [List.setIfInBounds_toArray]); (try simp only [List.set_cons_succ]); (try simp only [List.set_cons_zero])
              first | (refine wpAnyH_take (i := 1) (v := ?_) nth1 (by kernel_rfl) (by kernel_rfl) (by kernel_rfl) (fun _ _ _ h => h) (Or.inl ⟨by rfl, ?_⟩) hHeld ?_; rotate_left; focus (intro wS hSw; (obtain ⟨c0, c1, c2, c3, f0, f1, f2, f3⟩ := hSw.1.cells); go_simp; try with_reducible rfl; done)) | (refine wpAnyH_take (i := 1) (v := undef) nth1 (by kernel_rfl) (by kernel_rfl) (by kernel_rfl) (fun _ _ _ h => h) (Or.inr ⟨by rfl, rfl⟩) hHeld ?_)
              (try simp only [Act.put]); (try simp only [List.setIfInBounds_toArray]); (try simp only [List.set_cons_succ]); (try simp only [List.set_cons_zero])
              first | (refine wpAnyH_take (i := 2) (v := ?_) nth2 (by kernel_rfl) (by kernel_rfl) (by kernel_rfl) (fun _ _ _ h => h) (Or.inl ⟨by rfl, ?_⟩) hHeld ?_; rotate_left; focus (intro wS hSw; (obtain ⟨c0, c1, c2, c3, f0, f1, f2, f3⟩ := hSw.1.cells); go_simp; try with_reducible rfl; done)) | (refine wpAnyH_take (i := 2) (v := undef) nth2 (by kernel_rfl) (by kernel_rfl) (by kernel_rfl) (fun _ _ _ h => h) (Or.inr ⟨by rfl, rfl⟩) hHeld ?_)
              (try simp only [Act.put]); (try simp only [List.setIfInBounds_toArray]); (try simp only [List.set_cons_succ]); (try simp only [List.set_cons_zero])
              first | (refine wpAnyH_take (i := 3) (v := ?_) nth3 (by kernel_rfl) (by kernel_rfl) (by kernel_rfl) (fun _ _ _ h => h) (Or.inl ⟨by rfl, ?_⟩) hHeld ?_; rotate_left; focus (intro wS hSw; (obtain ⟨c0, c1, c2, c3, f0, f1, f2, f3⟩ := hSw.1.cells); go_simp; try with_reducible rfl; done)) | (refine wpAnyH_take (i := 3) (v := undef) nth3 (by kernel_rfl) (by kernel_rfl) (by kernel_rfl) (fun _ _ _ h => h) (Or.inr ⟨by rfl, rfl⟩) hHeld ?_)
              (try simp only [Act.put]); (try simp only [List.setIfInBounds_toArray]); (try simp only [List.set_cons_succ]); (try simp only [List.set_cons_zero])
              first | (refine wpAnyH_take (i := 4) (v := ?_) nth4 (by kernel_rfl) (by kernel_rfl) (by kernel_rfl) (fun _ _ _ h => h) (Or.inl ⟨by rfl, ?_⟩) hHeld ?_; rotate_left; focus (intro wS hSw; (obtain ⟨c0, c1, c2, c3, f0, f1, f2, f3⟩ := hSw.1.cells); go_simp; try with_reducible rfl; done)) | (refine wpAnyH_take (i := 4) (v := undef) nth4 (by kernel_rfl) (by kernel_rfl) (by kernel_rfl) (fun _ _ _ h => h) (Or.inr ⟨by rfl, rfl⟩) hHeld ?_)
              (try simp only [Act.put]); (try simp only [List.setIfInBounds_toArray]); (try simp only [List.set_cons_succ]); (try simp only [List.set_cons_zero])
              first | (refine wpAnyH_take (i := 5) (v := ?_) nth5 (by kernel_rfl) (by kernel_rfl) (by kernel_rfl) (fun _ _ _ h => h) (Or.inl ⟨by rfl, ?_⟩) hHeld ?_; rotate_left; focus (intro wS hSw; (obtain ⟨c0, c1, c2, c3, f0, f1, f2, f3⟩ := hSw.1.cells); go_simp; try with_reducible rfl; done)) | (refine wpAnyH_take (i := 5) (v := undef) nth5 (by kernel_rfl) (by kernel_rfl) (by kernel_rfl) (fun _ _ _ h => h) (Or.inr ⟨by rfl, rfl⟩) hHeld ?_)
              (try simp only [Act.put]); (try simp only [List.setIfInBounds_toArray]); (try simp only [List.set_cons_succ]); (try simp only [List.set_cons_zero])
              first | (refine wpAnyH_take (i := 6) (v := ?_) nth6 (by kernel_rfl) (by kernel_rfl) (by kernel_rfl) (fun _ _ _ h => h) (Or.inl ⟨by rfl, ?_⟩) hHeld ?_; rotate_left; focus (intro wS hSw; (obtain ⟨c0, c1, c2, c3, f0, f1, f2, f3⟩ := hSw.1.cells); go_simp; try with_reducible rfl; done)) | (refine wpAnyH_take (i := 6) (v := undef) nth6 (by kernel_rfl) (by kernel_rfl) (by kernel_rfl) (fun _ _ _ h => h) (Or.inr ⟨by rfl, rfl⟩) hHeld ?_)
              (try simp only [Act.put]); (try simp only [List.setIfInBounds_toArray]); (try simp only [List.set_cons_succ]); (try simp only [List.set_cons_zero])
              first | (refine wpAnyH_take (i := 7) (v := ?_) nth7 (by kernel_rfl) (by kernel_rfl) (by kernel_rfl) (fun _ _ _ h => h) (Or.inl ⟨by rfl, ?_⟩) hHeld ?_; rotate_left; focus (intro wS hSw; (obtain ⟨c0, c1, c2, c3, f0, f1, f2, f3⟩ := hSw.1.cells); go_simp; try with_reducible rfl; done)) | (refine wpAnyH_take (i := 7) (v := undef) nth7 (by kernel_rfl) (by kernel_rfl) (by kernel_rfl) (fun _ _ _ h => h) (Or.inr ⟨by rfl, rfl⟩) hHeld ?_)
              (try simp only [Act.put]); (try simp only [List.setIfInBounds_toArray]); (try simp only [List.set_cons_succ]); (try simp only [List.set_cons_zero])
              first | (refine wpAnyH_take (i := 8) (v := ?_) nth8 (by kernel_rfl) (by kernel_rfl) (by kernel_rfl) (fun _ _ _ h => h) (Or.inl ⟨by rfl, ?_⟩) hHeld ?_; rotate_left; focus (intro wS hSw; (obtain ⟨c0, c1, c2, c3, f0, f1, f2, f3⟩ := hSw.1.cells); go_simp; try with_reducible rfl; done)) | (refine wpAnyH_take (i := 8) (v := undef) nth8 (by kernel_rfl) (by kernel_rfl) (by kernel_rfl) (fun _ _ _ h => h) (Or.inr ⟨by rfl, rfl⟩) hHeld ?_)
              (try simp only [Act.put]); (try simp only [List.setIfInBounds_toArray]); (try simp only [List.set_cons_succ]); (try simp only [List.set_cons_zero])
              first | (refine wpAnyH_take (i := 9) (v := ?_) nth9 (by kernel_rfl) (by kernel_rfl) (by kernel_rfl) (fun _ _ _ h => h) (Or.inl ⟨by rfl, ?_⟩) hHeld ?_; rotate_left; focus (intro wS hSw; (obtain ⟨c0, c1, c2, c3, f0, f1, f2, f3⟩ := hSw.1.cells); go_simp; try with_reducible rfl; done)) | (refine wpAnyH_take (i := 9) (v := undef) nth9 (by kernel_rfl) (by kernel_rfl) (by kernel_rfl) (fun _ _ _ h => h) (Or.inr ⟨by rfl, rfl⟩) hHeld ?_)
              (try simp only [Act.put]); (try simp only [List.setIfInBounds_toArray]); (try simp only [List.set_cons_succ]); (try simp only [List.set_cons_zero])
              first | (refine wpAnyH_take (i := 10) (v := ?_) nth10 (by kernel_rfl) (by kernel_rfl) (by kernel_rfl) (fun _ _ _ h => h) (Or.inl ⟨by rfl, ?_⟩) hHeld ?_; rotate_left; focus (intro wS hSw; (obtain ⟨c0, c1, c2, c3, f0, f1, f2, f3⟩ := hSw.1.cells); go_simp; try with_reducible rfl; done)) | (refine wpAnyH_take (i := 10) (v := undef) nth10 (by kernel_rfl) (by kernel_rfl) (by kernel_rfl) (fun _ _ _ h => h) (Or.inr ⟨by rfl, rfl⟩) hHeld ?_)
              (try simp only [Act.put]); (try simp only [List.setIfInBounds_toArray]); (try simp only [List.set_cons_succ]); (try simp only [List.set_cons_zero])
              refine wpAnyH_ready (rs := [11]) (by kernel_rfl) (by simp) ?_
              refine AllReadyH.cons nth11 (fun K hK => ?_) AllReadyH.nil
              have HSd := hide (HS7.out.kept (Below.refl _ _).drew)
              have HXd := hide (HX7.out.kept (Below.refl _ _).drew)
              obtain ⟨d0, d1, d2, d3, y0, y1, y2, y3⟩ := HX7.out.cells
              have HX9 := hide (HXd.out.set4 A1 A2 A3 (.slice A k cp))
              have HB9 := hide (pbelow_set4 HSd.out.hb (Nat.le_refl w.heap.size) (.int .i64 A1) (.int .i64 A2) (.int .i64 A3) (.slice A k cp))
              have HO9 := hide (HSd.out.own.pfar4 HXd.out A1 A2 A3 (.slice A k cp))
              have HG9 := hide (HSd.out.bx.far4 (b := w.heap.size) (Nat.ne_of_gt hgx) (.int .i64 A1) (.int .i64 A2) (.int .i64 A3) (.slice A k cp))
              go_simp
              refine hK.out _ _ (⟨HG9.out, ⟨_, _, _, _, HX9.out⟩⟩) (fun hHeld => ?_)
              clear hK K
              (try simp only [Act.put]); (try simp only [List.setIfInBounds_toArray]); (try simp only [List.set_cons_succ]); (try simp only [List.set_cons_zero])
              first | (refine wpAnyH_take (i := 12) (v := ?_) nth12 (by kernel_rfl) (by kernel_rfl) (by kernel_rfl) (fun _ _ _ h => h) (Or.inl ⟨by rfl, ?_⟩) hHeld ?_; rotate_left; focus (intro wS hSw; (obtain ⟨c0, c1, c2, c3, f0, f1, f2, f3⟩ := hSw.1.cells); go_simp; try with_reducible rfl; done)) | (refine wpAnyH_take (i := 12) (v := undef) nth12 (by kernel_rfl) (by kernel_rfl) (by kernel_rfl) (fun _ _ _ h => h) (Or.inr ⟨by rfl, rfl⟩) hHeld ?_)
              (try simp only [Act.put]); (try simp only [List.setIfInBounds_toArray]); (try simp only [List.set_cons_succ]); (try simp only [List.set_cons_zero])
              refine wpAnyH_done (by kernel_rfl) ?_ _
              clear hHeld
              go_wp2_with fail
              refine end_p2 Tryd.results50 rfl rfl HX9.out rfl ?_
              refine ⟨A1, A2, A3, A, k, cp, by rw [HRB.out]; rfl, HB9.out, fun _ => ?_⟩
              rw [HC.out]
              exact ⟨rfl, rfl, rfl, by simp, HO9.out⟩
      · have hni : (512 : Int) < ((19 + 4 * shN p 15 : Nat) : Int) := by omega
        have HNR := hide (show rightB p = false from right_not (fun R => by have h1 := R.kind; have h2 := R.gap; have h3 := R.beg; omega))
        generalize (getP p 4 6).1 = A1 at *
        generalize (getP p 12 3).1 = A3 at *
        generalize bN p 10 = A2 at *
        generalize shN p 15 = N at *
        clear e2 e4
        go_enter Tryd.func50, Tryd.ntmps50
        go_upto_region 1 with (fail)
        generalize w.alloc (.cells #[.int .i64 0, .int .i64 0, .int .i64 0, .slice none 0 0] 46) = w1 at *
        obtain ⟨c0, c1, c2, c3, f0, f1, f2, f3⟩ := HX0.out.cells
        go_wp2_with fail
        refine (q1.out _).mono ?_
        rintro e w2 ⟨rfl, rfl⟩
        go_wp2_with fail
        refine (q2.out _).mono ?_
        rintro e w2 ⟨rfl, rfl⟩
        go_wp2_with fail
        refine (q3.out _).mono ?_
        rintro e w2 ⟨rfl, rfl⟩
        go_upto_region 4 with (fail)
        have HX1 := hide (pbx_new w1 A1 A2 A3 (.slice none 0 0))
        have HXR := hide (HX0.out.alloc (.cells #[.int .i64 A1, .int .i64 A2, .int .i64 A3, .slice none 0 0] 46))
        have HB1 := hide (HB0.out.alloc HB0.out.size (.cells #[.int .i64 A1, .int .i64 A2, .int .i64 A3, .slice none 0 0] 46))
        have hgx : w.heap.size < w1.heap.size := HX0.out.lt
        generalize w1.alloc (.cells #[.int .i64 A1, .int .i64 A2, .int .i64 A3, .slice none 0 0] 46) = w2 at *
        generalize w1.heap.size = gx at *
        clear c0 c1 c2 c3 f0 f1 f2 f3 HX0 HB0
        obtain ⟨c0, c1, c2, c3, f0, f1, f2, f3⟩ := HX1.out.cells
        have HR4 := hide (HXR.out.set4 0 0 0 (.slice none 0 0))
        have HB4 := hide (pbelow_set4 HB1.out (Nat.le_refl w.heap.size) (.int .i64 0) (.int .i64 0) (.int .i64 0) (.slice none 0 0))
        obtain ⟨d0, d1, d2, d3, y0, y1, y2, y3⟩ := HXR.out.cells
        go_wp2_with fail
        refine (q4.out _).mono ?_
        rintro e w3 ⟨rfl, rfl⟩
        go_wp2_with fail
        refine end_p2 Tryd.results50 rfl rfl HR4.out rfl ?_
        exact ⟨0, 0, 0, none, 0, 0, by rw [HNR.out]; rfl, HB4.out, fun h => by rw [HNR.out] at h; cases h⟩
    · have hki : (4 : Int) < (bN p 10 : Int) := by omega
      have HNR := hide (show rightB p = false from right_not (fun R => by have h1 := R.kind; have h2 := R.gap; have h3 := R.beg; omega))
      generalize (getP p 4 6).1 = A1 at *
      generalize (getP p 12 3).1 = A3 at *
      generalize bN p 10 = A2 at *
      generalize shN p 15 = N at *
      clear e2 e4
      go_enter Tryd.func50, Tryd.ntmps50
      go_upto_region 1 with (fail)
      generalize w.alloc (.cells #[.int .i64 0, .int .i64 0, .int .i64 0, .slice none 0 0] 46) = w1 at *
      obtain ⟨c0, c1, c2, c3, f0, f1, f2, f3⟩ := HX0.out.cells
      go_wp2_with fail
      refine (q1.out _).mono ?_
      rintro e w2 ⟨rfl, rfl⟩
      go_wp2_with fail
      refine (q2.out _).mono ?_
      rintro e w2 ⟨rfl, rfl⟩
      go_wp2_with fail
      refine (q3.out _).mono ?_
      rintro e w2 ⟨rfl, rfl⟩
      go_upto_region 4 with (fail)
      have HX1 := hide (pbx_new w1 A1 A2 A3 (.slice none 0 0))
      have HXR := hide (HX0.out.alloc (.cells #[.int .i64 A1, .int .i64 A2, .int .i64 A3, .slice none 0 0] 46))
      have HB1 := hide (HB0.out.alloc HB0.out.size (.cells #[.int .i64 A1, .int .i64 A2, .int .i64 A3, .slice none 0 0] 46))
      have hgx : w.heap.size < w1.heap.size := HX0.out.lt
      generalize w1.alloc (.cells #[.int .i64 A1, .int .i64 A2, .int .i64 A3, .slice none 0 0] 46) = w2 at *
      generalize w1.heap.size = gx at *
      clear c0 c1 c2 c3 f0 f1 f2 f3 HX0 HB0
      obtain ⟨c0, c1, c2, c3, f0, f1, f2, f3⟩ := HX1.out.cells
      have HR4 := hide (HXR.out.set4 0 0 0 (.slice none 0 0))
      have HB4 := hide (pbelow_set4 HB1.out (Nat.le_refl w.heap.size) (.int .i64 0) (.int .i64 0) (.int .i64 0) (.slice none 0 0))
      obtain ⟨d0, d1, d2, d3, y0, y1, y2, y3⟩ := HXR.out.cells
      go_wp2_with fail
      refine (q4.out _).mono ?_
      rintro e w3 ⟨rfl, rfl⟩
      go_wp2_with fail
      refine end_p2 Tryd.results50 rfl rfl HR4.out rfl ?_
      exact ⟨0, 0, 0, none, 0, 0, by rw [HNR.out]; rfl, HB4.out, fun h => by rw [HNR.out] at h; cases h⟩
  · have hskip := hz
    have HNR := hide (show rightB p = false from right_not (fun R => hz R.size))
    have hne : ¬ (p.size : Int) = 512 := by omega
    go_enter Tryd.func50, Tryd.ntmps50
    go_upto_region 1 with (fail)
    generalize w.alloc (.cells #[.int .i64 0, .int .i64 0, .int .i64 0, .slice none 0 0] 46) = w1 at *
    obtain ⟨c0, c1, c2, c3, f0, f1, f2, f3⟩ := HX0.out.cells
    have HR4 := hide (HX0.out.set4 0 0 0 (.slice none 0 0))
    have HB4 := hide (pbelow_set4 HB0.out (Nat.le_refl w.heap.size) (.int .i64 0) (.int .i64 0) (.int .i64 0) (.slice none 0 0))
    go_wp2_with fail
    refine end_p2 Tryd.results50 rfl rfl HR4.out rfl ?_
    exact ⟨0, 0, 0, none, 0, 0, by rw [HNR.out]; rfl, HB4.out, fun h => by rw [HNR.out] at h; cases h⟩
end Go.Proofs.YtfdedkcidemimaaDoor
