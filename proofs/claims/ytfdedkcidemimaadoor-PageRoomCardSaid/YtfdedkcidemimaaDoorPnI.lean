/- Pages: slices.Delete, slices.Insert, of strings in memory of the call's own. -/
import Derived.Test.YtfdedkcidemimaaDoorPnL
namespace Go.Proofs.YtfdedkcidemimaaDoor
set_option linter.unusedVariables false
set_option linter.unusedSimpArgs false
open Go.ChangeShapes Go.WideShapes Go.ChangeAt Go.RowKit

theorem grown_putRow {w w1 : World} {g q : Nat} {d : Array (List UInt8)} : w.grownBy (Go.Sort.putRow encStr (Go.Sort.ahead w q) g 0 d) (some g) :=
  ⟨rfl, rfl, rfl, by simp [Go.Sort.putRow, Go.Sort.mapBlock, Go.Sort.ahead], fun k hk hne => by
    have : g ≠ k := fun e => hne (by rw [e])
    simp [Go.Sort.putRow, Go.Sort.mapBlock, Go.Sort.ahead, Array.getElem?_modify, this]⟩
theorem delete_c (B g n c : Nat) (l : List ByteArray) (i : Nat) (w : World) (h : OwnS w B (.slice (some ⟨g, 0, none⟩) n c) l) (hi : i < l.length) (hn : n ≤ 1048576) :
    Calls Tryd.prog 68 #[.slice (some ⟨g, 0, none⟩) n c, .int .i64 i, .int .i64 ((i + 1 : Nat) : Int)] w fun e w' => ∃ v', e = .returned v' ∧ OwnS w' B v' (l.eraseIdx i) ∧ v'.ownBlock = some g ∧ w.grownBy w' (some g) := by
  obtain ⟨zs, hzs⟩ : ∃ zs, l.map (·.data.toList) = zs := ⟨_, rfl⟩
  have hl : zs.length = l.length := by rw [← hzs]; simp
  have ho : w.ownsRow B 9 1 (.slice (some ⟨g, 0, none⟩) n c) l.length (zs.map encStr) := by
    have := h
    unfold OwnS at this
    rw [stC_flat, ← Lib.map_encStr, hzs] at this
    exact this
  obtain ⟨g', c', e, hB, hg, hnc, hcm, hzl, hH⟩ := Lib.holds_of_ownsRow ho (by simp)
  injection e with e1 e2 e3
  injection e1 with e1
  injection e1 with e1 _
  subst e1 e2 e3
  have Q := Any.slices_Delete_string Tryd.ins24 g 0 c i (i + 1) zs w hH (by omega) (by unfold maxLen at hcm; omega) (by omega) (by omega)
  rw [hl] at Q
  refine Q.mono ?_
  rintro e w' ⟨rfl, q, rfl⟩
  have hy : (zs.take i ++ zs.drop (i + 1) ++ List.replicate (i + 1 - i) []).length = l.length := by
    simp
    omega
  have hu := Lib.ownsRow_putRow (q := q) (k := l.length - 1) ho hy (by omega)
  have ht : (zs.take i ++ zs.drop (i + 1) ++ List.replicate (i + 1 - i) []).take (l.length - 1) = (l.eraseIdx i).map (·.data.toList) := by
    rw [List.take_append_of_le_length (by simp <;> omega), List.take_of_length_le (by simp <;> omega), ← hzs, ← List.map_take, ← List.map_drop, ← List.map_append, List.eraseIdx_eq_take_drop_succ]
  rw [ht] at hu
  refine ⟨_, rfl, ?_, rfl, grown_putRow (w1 := w)⟩
  unfold OwnS
  rw [stC_flat, ← Lib.map_encStr, List.length_eraseIdx_of_lt hi]
  rw [show i + 1 - i = 1 by omega] at hu ⊢
  exact hu
theorem cells_heap {g : Nat} {t : TypeId} : ∀ (vs : List Value) (o : Nat) (w : World) (cur : Array Value), w.heap[g]? = some (.cells cur t (0, 0)) → o + vs.length ≤ cur.size → ∃ cur', (w.setCells g o vs).heap[g]? = some (.cells cur' t (0, 0)) ∧ cur'.size = cur.size ∧ cur'.toList = cur.toList.take o ++ vs ++ cur.toList.drop (o + vs.length)
  | [], o, w, cur, h, _ => ⟨cur, h, rfl, by simp⟩
  | v :: vs, o, w, cur, h, hs => by
    have h2 : (w.setCell ⟨g, o, none⟩ v).heap[g]? = some (.cells (cur.setIfInBounds o v) t (0, 0)) := by simp [World.setCell, Array.getElem?_modify, h]
    simp only [List.length_cons] at hs
    obtain ⟨cur', e1, e2, e3⟩ := cells_heap vs (o + 1) (w.setCell ⟨g, o, none⟩ v) _ h2 (by rw [Array.size_setIfInBounds]; omega)
    refine ⟨cur', e1, by rw [e2, Array.size_setIfInBounds], ?_⟩
    rw [e3, Array.toList_setIfInBounds]
    have hl : cur.toList.length = cur.size := Array.length_toList
    rw [List.set_eq_take_append_cons_drop, if_pos (by omega)]
    have h3 : (cur.toList.take o).length = o := by rw [List.length_take]; omega
    generalize cur.toList = L at *
    have q1 : (L.take o ++ v :: L.drop (o + 1)).take (o + 1) = L.take o ++ [v] := by
      rw [List.take_append, h3, List.take_of_length_le (by omega), show o + 1 - o = 1 by omega]
      rfl
    have q2 : (L.take o ++ v :: L.drop (o + 1)).drop (o + 1 + vs.length) = L.drop (o + 1 + vs.length) := by
      rw [List.drop_append, h3, List.drop_of_length_le (l := L.take o) (by omega), show o + 1 + vs.length - o = vs.length + 1 by omega, List.drop_succ_cons, List.drop_drop, List.nil_append]
    rw [q1, q2, List.length_cons, show o + (vs.length + 1) = o + 1 + vs.length by omega, List.append_assoc, List.append_assoc]
    simp
theorem setCells_size (g : Nat) : ∀ (vs : List Value) (o : Nat) (w : World), (w.setCells g o vs).heap.size = w.heap.size
  | [], _, _ => rfl
  | v :: vs, o, w => by
    rw [World.setCells, setCells_size g vs]
    simp [World.setCell]
theorem setCells_else (g : Nat) : ∀ (vs : List Value) (o : Nat) (w : World) (k : Nat), k ≠ g → (w.setCells g o vs).heap[k]? = w.heap[k]?
  | [], _, _, _, _ => rfl
  | v :: vs, o, w, k, hk => by
    rw [World.setCells, setCells_else g vs _ _ k hk]
    exact Below.heap_setCell w ⟨g, o, none⟩ v k hk
theorem setCells_os (g : Nat) : ∀ (vs : List Value) (o : Nat) (w : World), (w.setCells g o vs).os = w.os ∧ (w.setCells g o vs).tape = w.tape ∧ (w.setCells g o vs).output = w.output
  | [], _, _ => ⟨rfl, rfl, rfl⟩
  | v :: vs, o, w => by
    rw [World.setCells]
    exact setCells_os g vs _ _
theorem grown_insert (w : World) (o : Obj) (g1 : Option Nat) (vs us : List Value) (i j : Nat) : w.grownBy ((((w.alloc o).drew.setCells w.heap.size i vs).drew).setCells w.heap.size j us) g1 := by
  obtain ⟨a1, a2, a3⟩ := setCells_os w.heap.size us j (((w.alloc o).drew.setCells w.heap.size i vs).drew)
  obtain ⟨b1, b2, b3⟩ := setCells_os w.heap.size vs i ((w.alloc o).drew)
  refine ⟨a1.trans b1, a2.trans b2, a3.trans b3, ?_, ?_⟩
  · rw [setCells_size]
    show _ ≤ ((w.alloc o).drew.setCells w.heap.size i vs).heap.size
    rw [setCells_size]
    show w.heap.size ≤ (w.alloc o).heap.size
    rw [World.size_alloc]
    omega
  · intro k hk _
    rw [setCells_else _ _ _ _ _ (by omega)]
    show ((w.alloc o).drew.setCells w.heap.size i vs).heap[k]? = _
    rw [setCells_else _ _ _ _ _ (by omega)]
    exact (Bel.one w o).block k hk
theorem insert_lt (B g n : Nat) (l : List ByteArray) (i vb : Nat) (r : ByteArray) (w : World) (h : OwnS w B (.slice (some ⟨g, 0, none⟩) n n) l) (hi : i < l.length) (hn : n ≤ 1048576) (hr : w.cell? ⟨vb, 0, none⟩ = some (.string r)) :
    Calls Tryd.prog 67 #[.slice (some ⟨g, 0, none⟩) n n, .int .i64 i, .slice (some ⟨vb, 0, none⟩) 1 1] w fun e w' => ∃ v', e = .returned v' ∧ OwnS w' B v' (l.take i ++ r :: l.drop i) ∧ v'.ownBlock = some w.heap.size ∧ w.grownBy w' (some g) := by
  rcases h.2 with ⟨e, _⟩ | ⟨g', c', cur, e, hB, hh, hnc, hm, hcs, ht⟩
  · cases e
  · injection e with e1 e2 e3
    injection e1 with e1
    injection e1 with e1 _
    subst e1 e2 e3
    rw [stC_flat, Nat.mul_one] at ht
    have hcs' : ∀ j v, (l.map Value.string)[j]? = some v → w.cell? ⟨g, 0 + j, none⟩ = some v := by
      intro j v hj
      rw [Nat.zero_add]
      refine (cell_of_row w g j _ _ (0, 0) hh).trans ?_
      rw [← ht, List.getElem?_take] at hj
      split at hj
      · rw [← Array.getElem?_toList]; exact hj
      · cases hj
    have hgl : g < w.heap.size := (Array.getElem?_eq_some_iff.1 hh).1
    have Q := Any2.slices_Insert_string_grow Tryd.ins22 g 0 l.length l.length i vb 0 1 1 (l.map Value.string) [.string r] w hi (by omega) (Nat.le_refl _) (by omega) (by omega) (by simp) rfl hcs'
      (by
        intro j v hj
        cases j with
        | zero => simp at hj; subst hj; exact hr
        | succ j => simp at hj)
      (by intro u hu; obtain ⟨b, _, rfl⟩ := List.mem_map.1 hu; rfl) (by intro u hu; simp at hu; subst hu; rfl)
    refine Q.mono ?_
    rintro e w' ⟨rfl, rfl⟩
    refine ⟨_, rfl, ?_, rfl, grown_insert _ _ _ _ _ _ _⟩
    have hG := grownCap_ge w (l.length + 1) l.length 9
    have hGm := grownCap_le_maxLen w (l.length + 1) l.length 9 (by unfold maxLen; omega)
    have hG2 : l.length + 1 ≤ grownCap w (l.length + 1) l.length (Tryd.insRen.t 9) := hG
    have hG3 : grownCap w (l.length + 1) l.length (Tryd.insRen.t 9) ≤ maxLen := hGm
    generalize grownCap w (l.length + 1) l.length (Tryd.insRen.t 9) = G at *
    obtain ⟨cur0, hcur0⟩ : ∃ cur0, cur0 = (((l.map Value.string).take i).toArray ++ Builtin.zeroCells (Value.string ⟨#[]⟩).cells (l.length + 1 - i) ++ Builtin.zeroCells (Value.string ⟨#[]⟩).cells (G - (l.length + 1))) := ⟨_, rfl⟩
    rw [← hcur0]
    have hs0 : cur0.size = G := by
      have e1 : (Value.string ⟨#[]⟩).cells.size = 1 := rfl
      rw [hcur0, Array.size_append, Array.size_append, size_zeroCells, size_zeroCells, e1]
      simp
      omega
    have ht0 : cur0.toList.take i = (l.map Value.string).take i := by
      rw [hcur0, Array.toList_append, Array.toList_append, List.append_assoc, List.take_append_of_le_length (by simp <;> omega)]
      simp only [List.take_take, Nat.min_self]
    have h0 : ((w.alloc (.cells cur0 (Tryd.insRen.t 9))).drew).heap[w.heap.size]? = some (.cells cur0 (Tryd.insRen.t 9) (0, 0)) := heap_alloc_new w _
    obtain ⟨c1, a1, a2, a3⟩ := cells_heap [.string r] i _ cur0 h0 (by simp <;> omega)
    have h1 : (((w.alloc (.cells cur0 (Tryd.insRen.t 9))).drew.setCells w.heap.size i [.string r]).drew).heap[w.heap.size]? = some (.cells c1 (Tryd.insRen.t 9) (0, 0)) := a1
    obtain ⟨c2, b1, b2, b3⟩ := cells_heap ((l.map Value.string).drop i) (i + 1) _ c1 h1 (by simp <;> omega)
    refine ⟨by rw [stC_flat]; simp <;> omega, .inr ⟨w.heap.size, G, c2, by simp <;> omega, ?_, b1, by simp <;> omega, hG3, by rw [b2, a2, hs0]; omega, ?_⟩⟩
    · omega
    · rw [stC_flat, b3, a3, ht0]
      have hcl : cur0.toList.length = G := by rw [Array.length_toList, hs0]
      have hti : ((l.map Value.string).take i).length = i := by simp; omega
      generalize cur0.toList.drop (i + [Value.string r].length) = rest
      have e1 : ((l.map Value.string).take i ++ [Value.string r] ++ rest).take (i + 1) = (l.map Value.string).take i ++ [Value.string r] := by
        rw [List.take_append_of_le_length (by simp <;> omega), List.take_of_length_le (by simp <;> omega)]
      rw [e1, List.append_assoc, List.append_assoc, Nat.mul_one]
      rw [← List.append_assoc, ← List.append_assoc, List.take_append_of_le_length (by simp <;> omega), List.take_of_length_le (by simp <;> omega)]
      simp
set_option maxRecDepth 100000 in
theorem insert_end (B : Nat) (v : Value) (l : List ByteArray) (vb : Nat) (r : ByteArray) (w : World) (h : OwnS w B v l) (hn : l.length ≤ 1048576) (hB : B ≤ w.heap.size) (hr : w.cell? ⟨vb, 0, none⟩ = some (.string r)) (hv : vb < w.heap.size) :
    Calls Tryd.prog 67 #[v, .int .i64 l.length, .slice (some ⟨vb, 0, none⟩) 1 1] w fun e w' => ∃ v', e = .returned v' ∧ OwnS w' B v' (l ++ [r]) ∧ (v'.ownBlock = v.ownBlock ∨ v'.ownBlock = some w.heap.size) ∧ w.grownBy w' v.ownBlock := by
  obtain ⟨i0, hi0, hz0, hz1, hz2⟩ := info_parts str_info
  obtain ⟨A, c, rfl, hs⟩ := h.sl
  have hcap := hs.cap
  have HO := hide h
  obtain ⟨L, hL⟩ : ∃ L, l ++ [r] = L := ⟨_, rfl⟩
  rw [hL]
  have HL := hide hL
  have hrc : Cells w w.heap.size (some ⟨vb, 0, none⟩) [.string r] := by
    refine fun _ => ⟨vb, 0, rfl, hv, ?_⟩
    intro j u hj
    cases j with
    | zero => simp at hj; subst hj; exact hr
    | succ j => simp at hj
  have HRC := hide hrc
  obtain ⟨ob, hob⟩ : ∃ ob, ∀ n c, (Value.slice A n c).ownBlock = ob := by
    cases A with
    | none => exact ⟨none, fun _ _ => rfl⟩
    | some a => exact ⟨some a.block, fun _ _ => rfl⟩
  rw [hob]
  have HOB := hide hob
  clear h hs hL hrc hr hob
  have hnl : ¬ ((1 : Int) = 0) := by omega
  go_enter Tryd.func67, Tryd.ntmps67
  go_wp2_with (at_builtin; refine wpList_app rfl (.tmp 23) (.tmp 24) 37 rfl B 9 i0 _ 1 16 Tryd.underlying37 hi0 hz0 hz1 hz2 rfl (by omega) _ l.length _ rfl HO.out _ _ 1 1 [.string r] rfl rfl HRC.out (by simp [Value.oneCell']) (by unfold maxLen; omega) (by omega) hB (by simp) ?_; intro v2 w2 hown2 hg2 hat2)
  all_goals
    have hat3 : v2.ownBlock = (Value.slice A l.length c).ownBlock ∨ v2.ownBlock = some w.heap.size := hat2
    have hg3 : w.grownBy w2 (Value.slice A l.length c).ownBlock := hg2
    rw [HOB.out] at hat3 hg3
    go_ret
    refine ⟨v2, rfl, ?_, hat3, hg3⟩
    rw [← HL.out]
    unfold OwnS
    rw [List.map_append, List.flatten_append, List.length_append]
    exact hown2
end Go.Proofs.YtfdedkcidemimaaDoor
