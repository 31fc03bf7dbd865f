/- Pages of the reference: with, laid. -/
import Derived.Test.YtfdedkcidemimaaDoorPrH
namespace Go.Proofs.YtfdedkcidemimaaDoor
set_option linter.unusedVariables false
set_option linter.unusedSimpArgs false
open Go.ChangeShapes Go.WideShapes Go.ChangeAt Go.RowKit

theorem SlAt.dropC {w : World} {B n c j : Nat} {A : Option Addr} {l : List ByteArray} (h : SlAt stC 1 w B A n c l) (hj : j ≤ n) : Cells w B (if c = j then A else A.map (·.add j)) ((l.drop j).map stC).flatten := by
  intro hn
  have hc := h.cap
  rw [stC_flat] at hn ⊢
  simp at hn
  have hlen := h.len
  have hn' : 0 < ((l.map stC).flatten).length := by rw [stC_flat]; simp; omega
  obtain ⟨b, off, e, hb, hcell⟩ := h.recs.2 hn'
  subst e
  rw [if_neg (by omega)]
  refine ⟨b, off + j, by rw [Option.map_some, Addr.add_lit], hb, fun i u hu => ?_⟩
  rw [Nat.add_assoc]
  refine hcell (j + i) u ?_
  rw [stC_flat]
  rw [List.map_drop, List.getElem?_drop] at hu
  exact hu
theorem SlAt.takeC {w : World} {B n c j : Nat} {A : Option Addr} {l : List ByteArray} (h : SlAt stC 1 w B A n c l) (hj : j ≤ n) : Cells w B A ((l.take j).map stC).flatten := (h.cut hj).recs.2
theorem PtS.renew {w wr w' : World} {gx : Nat} {c : CtV} {v v' : Value} {l : List ByteArray} (h : PtS w gx c v wr) (hb : Below wr.heap.size wr w') (ho : OwnS w' wr.heap.size v' l) : PBx w' gx c.lsn c.kind c.link v ∧ PtS w gx (withR c l) v' (w'.setCell ⟨gx, 3, none⟩ v') := by
  have hx := h.bx.kept hb
  exact ⟨hx, hx.set3 v', (ho.more h.hb.size).pfar (p := ⟨gx, 3, none⟩) hx v', h.b1, (Bel.then h.hb hb).setCell (p := ⟨gx, 3, none⟩) h.b1 v'⟩
def laidR (c : CtV) : ByteArray × Int := if sizeN c.recs ≤ 512 then (layR c, 0) else (⟨#[]⟩, 18)
theorem rlaid_c (x y z : Int) (A : Option Addr) (n c : Nat) (l : List ByteArray) (w : World) (h : SlAt stC 1 w w.heap.size A n c l) (hn : sizeN l ≤ 1048576) (hy : 0 ≤ y ∧ y ≤ 255) : Calls Tryd.prog 66 #[.agg #[.int .i64 x, .int .i64 y, .int .i64 z, .slice A n c]] w fun e w' => e = .returned (.tuple #[.string (laidR ⟨x, y, z, l⟩).1, .int .i64 (laidR ⟨x, y, z, l⟩).2]) ∧ Below w.heap.size w w' := by
  have hB := Bel.one w (.cells #[.int .i64 x, .int .i64 y, .int .i64 z, .slice A n c] 46)
  have HX0 := hide (pbx_new w x y z (.slice A n c))
  have HS0 := hide (h.kept hB)
  have HB0 := hide hB
  have QF := hide (fun W hW => rfits_c x y z A n c l W hW hn)
  have QL := hide (fun W hW => rlay_c x y z A n c l W hW hn hy)
  unfold laidR
  dsimp only
  generalize layR ⟨x, y, z, l⟩ = V at *
  clear h hB
  by_cases hf : sizeN l ≤ 512
  · rw [decide_eq_true hf] at QF
    rw [if_pos hf]
    clear hf hn
    go_enter Tryd.func66, Tryd.ntmps66
    go_upto_region 1 with (fail)
    generalize w.alloc _ = w1 at *
    obtain ⟨c0, c1, c2, c3, f0, f1, f2, f3⟩ := HX0.out.cells
    go_wp2_with fail
    refine (QF.out _ HS0.out).mono ?_
    rintro e w2 ⟨rfl, hb⟩
    have HX2 := hide (HX0.out.kept hb)
    have HS2 := hide (HS0.out.kept hb)
    have HB2 := hide (Bel.then HB0.out hb)
    clear hb c0 c1 c2 c3 f0 f1 f2 f3
    obtain ⟨c0, c1, c2, c3, f0, f1, f2, f3⟩ := HX2.out.cells
    go_wp2_with fail
    refine (QL.out _ HS2.out).mono ?_
    rintro e w3 ⟨rfl, hb⟩
    replace HB2 := hide (Bel.then HB2.out hb)
    clear hb
    go_wp2_with fail
    go_ret2
    exact ⟨rfl, HB2.out⟩
  · rw [decide_eq_false hf] at QF
    rw [if_neg hf]
    clear hf hn
    go_enter Tryd.func66, Tryd.ntmps66
    go_upto_region 1 with (fail)
    generalize w.alloc _ = w1 at *
    obtain ⟨c0, c1, c2, c3, f0, f1, f2, f3⟩ := HX0.out.cells
    go_wp2_with fail
    refine (QF.out _ HS0.out).mono ?_
    rintro e w2 ⟨rfl, hb⟩
    have HB2 := hide (Bel.then HB0.out hb)
    clear hb c0 c1 c2 c3 f0 f1 f2 f3
    go_wp2_with fail
    go_ret2
    exact ⟨rfl, HB2.out⟩
theorem rwith_no (A : Option Addr) (n c : Nat) (k : Nat) (r : ByteArray) (hk : 512 < k) (w : World) : Calls Tryd.prog 65 #[.slice A n c, .int .i64 k, .string r] w fun e w' => e = .returned (.tuple #[.slice none 0 0, .bool false]) ∧ w = w' := by
  have hki : (512 : Int) < (k : Int) := by omega
  go_enter Tryd.func65, Tryd.ntmps65
  go_wp2_with fail
  go_ret2
  exact ⟨rfl, rfl⟩
set_option maxRecDepth 100000 in
theorem rwith_c (A : Option Addr) (n c : Nat) (l : List ByteArray) (k : Nat) (r : ByteArray) (w : World) (h : SlAt stC 1 w w.heap.size A n c l) (hk : k ≤ 512) (hn : n ≤ 200) : Calls Tryd.prog 65 #[.slice A n c, .int .i64 k, .string r] w fun e w' => ∃ v, e = .returned (.tuple #[v, .bool true]) ∧ OwnS w' w.heap.size v (setP l k r) ∧ Below w.heap.size w w' := by
  obtain ⟨i0, hi0, hz0, hz1, hz2⟩ := info_parts str_info
  have hki : ¬ (512 : Int) < (k : Int) := by omega
  have hlen := h.len
  have HC := hide h.recs.2
  have hnil := h.nil
  have hml : (l.map stC).flatten.length = n * 1 := by rw [stC_flen, hlen]
  have HON := hide (stC_ones l)
  have HLN := hide hlen
  obtain ⟨L, hL⟩ : ∃ L, setP l k r = L := ⟨_, rfl⟩
  rw [hL]
  have HL := hide hL
  clear h hL hlen
  go_enter Tryd.func65, Tryd.ntmps65
  go_upto_region 5 with (at_builtin; refine wpList_app rfl (.tmp 11) (.tmp 12) 37 rfl w.heap.size 9 i0 _ 1 16 Tryd.underlying37 hi0 hz0 hz1 hz2 rfl (by omega) _ 0 [] rfl (World.ownsRow_nil _ _ _ _) _ A n c (l.map stC).flatten rfl hml HC.out HON.out (by unfold maxLen; omega) (by omega) (Nat.le_refl _) hnil ?_; intro v1 w1 hown1 hg1 hat1; rw [Nat.zero_add, List.nil_append] at hown1)
  have HB1 := hide (own_grown (Below.refl w.heap.size w) hg1 (fun k hk => by cases hk))
  have ho1 : OwnS w1 w.heap.size v1 l := by unfold OwnS; rw [HLN.out]; exact hown1
  have HO1 := hide (show ∃ j, l.length + j ≤ max l.length (k + 1) ∧ OwnS w1 w.heap.size v1 (l ++ List.replicate j ⟨#[]⟩) from ⟨0, by omega, by simpa using ho1⟩)
  clear hown1 hg1 hat1 ho1 HC HON hml
  go_loopw [8] (fun v wr => ∃ j, l.length + j ≤ max l.length (k + 1) ∧ Hid (OwnS wr w.heap.size v (l ++ List.replicate j ⟨#[]⟩)) ∧ Hid (Below w.heap.size w wr)) (fun v _ => 1000 - lenV v)
  case atStart => exact ⟨HO1.out.choose, HO1.out.choose_spec.1, HO1.out.choose_spec.2, HB1⟩
  case round =>
    clear HO1 HB1
    obtain ⟨j, hj, HO, HB⟩ := hrel
    have hml : (l ++ List.replicate j (⟨#[]⟩ : ByteArray)).length = l.length + j := by simp
    obtain ⟨A2, c2, rfl, hs2⟩ := HO.out.sl
    clear hs2
    generalize hm2 : (l ++ List.replicate j (⟨#[]⟩ : ByteArray)).length = m at *
    have hln := HLN.out
    by_cases hlt : m ≤ k
    · have hlti : (m : Int) ≤ (k : Int) := by omega
      have HLT := hide (show Cells (wr.alloc (.cells #[.string ⟨#[]⟩] 9)) (wr.heap.size + 1) (some ⟨wr.heap.size, 0, none⟩) [.string ⟨#[]⟩] from cells_lit wr _ _)
      have ho1 := HO.out.kept (Bel.one wr (.cells #[.string ⟨#[]⟩] 9))
      unfold OwnS at ho1
      rw [hm2] at ho1
      have HO1 := hide ho1
      have HB1 := hide (HB.out.alloc HB.out.size (.cells #[.string ⟨#[]⟩] 9))
      have HM := hide hm2
      have HML := hide hml
      have hm150 : m ≤ 600 := by omega
      clear ho1 hm2 hml HO HB hln
      go_wp2_with (at_builtin; refine wpList_app rfl (.tmp 18) (.tmp 19) 37 rfl w.heap.size 9 i0 _ 1 16 Tryd.underlying37 hi0 hz0 hz1 hz2 rfl (by omega) _ m _ rfl HO1.out _ _ 1 1 [.string ⟨#[]⟩] rfl rfl HLT.out (by simp [Value.oneCell']) (by unfold maxLen; omega) (by omega) HB1.out.size (by simp) ?_; intro v5 w5 hown5 hg5 hat5; have HO5 := hide (OwnS.of_app HM.out hown5); have HB5 := hide (own_grown HB1.out hg5 (fun q hq => (World.ownsRow.lt HO1.out q hq).1)); clear hown5 hg5 hat5)
      obtain ⟨A5, c5, rfl, hs5⟩ := HO5.out.sl
      have hl5 : (l ++ List.replicate j (⟨#[]⟩ : ByteArray) ++ [(⟨#[]⟩ : ByteArray)]).length = m + 1 := by rw [List.length_append, HM.out]; rfl
      have HL5 := hide hl5
      clear hs5 hl5
      go_roundw
      case rel =>
        have hrr : l ++ List.replicate (j + 1) (⟨#[]⟩ : ByteArray) = l ++ List.replicate j ⟨#[]⟩ ++ [⟨#[]⟩] := by rw [List.replicate_succ', List.append_assoc]
        exact ⟨j + 1, by have := HML.out; have := HLN.out; omega, by rw [hrr]; exact HO5, HB5⟩
      case measure =>
        have := HL5.out
        simp [lenV]
        have := HML.out
        omega
    · have hlti : ¬ (m : Int) ≤ (k : Int) := by omega
      have hjk : j = k + 1 - l.length := by omega
      have hki2 : (k : Int) < m := by omega
      obtain ⟨g, c, e, hB, hcc, hff⟩ := HO.out.cells k (by omega)
      injection e with e1 e2 e3
      subst e1 e3
      have hS2 : OwnS (wr.setCell ⟨g, k, none⟩ (.string r)) w.heap.size (.slice (some ⟨g, 0, none⟩) m c2) L := by
        rw [← HL.out]
        unfold setP
        rw [← hjk]
        exact HO.out.put (by omega) r
      have HS2 := hide hS2
      have HB2 := hide (HB.out.setCell (p := ⟨g, k, none⟩) hB (.string r))
      clear hS2 hjk e2 hml hln
      go_wp2_with fail
      go_ret2
      exact ⟨_, rfl, HS2.out, HB2.out⟩
end Go.Proofs.YtfdedkcidemimaaDoor
