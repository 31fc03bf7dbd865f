/- The contract of the reader's value. -/
import Derived.Test.YtebamnlknaoehaaRcG
namespace Go.Proofs.Ytebamnlknaoehaa
set_option linter.unusedVariables false
open Go.ChangeShapes Go.WideShapes Go.ChangeAt Go.RowKit

/-- What a value's reading gives, told from further back. -/
theorem reads_on {g b : Nat} {s : ByteArray} {x : Got} {e : Ending} {w w1 w2 : World} {a : Int} (h : ReadsAs g s w1 x e w2) (hL : Leaves g s a 0 w w1) (hX : VBox w1 b null) (hb : b ≠ g) :
    ∃ v : ValV, e = .returned (valAgg v) ∧ VBox w2 b null ∧ ∀ w3, (∀ a e, Leaves g s a e w w2 → Leaves g s a e w w3) → ReadsAs g s w x (.returned (valAgg v)) w3 := by
  match x, h with
  | .bad c, ⟨v, a', he, h2⟩ => exact ⟨v, he, h2.box hX hb, fun w3 hw => ⟨v, a', rfl, hw _ _ (hL.then h2)⟩⟩
  | .val v r, ⟨a', he, h2, h3, h4⟩ => exact ⟨v, he, h2.box hX hb, fun w3 hw => ⟨a', rfl, hw _ _ (hL.then h2), h3, h4⟩⟩
set_option maxRecDepth 100000 in
set_option maxHeartbeats 1000000 in
theorem value_c (g : Nat) (s : ByteArray) (a : Nat) (w : World) (h : RdAt w g s a 0) (ha : a ≤ s.size) (hm : s.size ≤ 4611686018427387904) :
    Calls Try.prog 44 #[.pointer (some ⟨g, 0, none⟩)] w (ReadsAs g s w (takeG (s.data.toList.drop a))) := by
  have hgl := h.lt
  by_cases hlt : a < s.size
  · have Q := hide (fun (o : Obj) => oct_ok g s a (w.alloc o) (h.alloc o) hlt hm)
    rw [drop_str hlt, takeG_cons]
    have hc := s[a].toNat_lt
    generalize s[a].toNat = z at *
    clear h
    have QB := hide (fun w1 (h1 : Leaves g s ((a + 1 : Nat) : Int) 0 w w1) => boolean_c g s (a + 1) w1 h1.1 hlt hm)
    have QI := hide (fun w1 (h1 : Leaves g s ((a + 1 : Nat) : Int) 0 w w1) => integer_c g s (a + 1) w1 h1.1 hlt hm)
    have QT := hide (fun w1 (h1 : Leaves g s ((a + 1 : Nat) : Int) 0 w w1) => text_c g s (a + 1) w1 h1.1 hlt hm)
    have hz : (z = 0) ∨ (z = 1) ∨ (z = 2) ∨ (z = 3) ∨ (((z : Int) == 0) = false ∧ ((z : Int) == 1) = false ∧ ((z : Int) == 2) = false ∧ ((z : Int) == 3) = false ∧ z ≠ 0 ∧ z ≠ 1 ∧ z ≠ 2 ∧ z ≠ 3) := by
      by_cases h0 : z = 0
      · exact .inl h0
      · by_cases h1 : z = 1
        · exact .inr (.inl h1)
        · by_cases h2 : z = 2
          · exact .inr (.inr (.inl h2))
          · by_cases h3 : z = 3
            · exact .inr (.inr (.inr (.inl h3)))
            · right; right; right; right
              simp [h0, h1, h2, h3]
              omega
    rcases hz with rfl | rfl | rfl | rfl | ⟨z0, z1, z2, z3, n0, n1, n2, n3⟩
    · rw [if_pos rfl]
      generalize hd : s.data.toList.drop (a + 1) = r
      have HD := hide hd
      clear hd QB QI QT
      go_enter Try.func44, Try.ntmps44
      go_wp2_with fail
      refine (Q.out _).mono ?_
      rintro e w1 ⟨rfl, h1⟩
      obtain ⟨k0, k1, k2, y0, y1, y2⟩ := (h1.box (vbox_new w null) (by omega)).all
      simp only [null] at k0 k1 k2
      have HX := hide (h1.box (vbox_new w null) (by omega))
      have H1 := hide h1.from
      clear h1 Q
      go_wp2_with fail
      exact end_val Try.results44 rfl rfl (HX.out.set3 0 0 _) ⟨_, rfl, H1.out.set3 (Nat.le_refl _) (by omega) _ _ _, HD.out, hlt⟩
    · rw [if_neg (by omega), if_pos rfl]
      generalize boolG (s.data.toList.drop (a + 1)) = x at *
      clear QI QT
      go_enter Try.func44, Try.ntmps44
      go_wp2_with fail
      refine (Q.out _).mono ?_
      rintro e w1 ⟨rfl, h1⟩
      have HX := hide (h1.box (vbox_new w null) (by omega))
      have H1 := hide h1.from
      clear h1 Q
      go_wp2_with fail
      refine (QB.out _ H1.out).mono ?_
      intro e w2 h2
      obtain ⟨⟨vk, vn, vs⟩, rfl, hx2, hr⟩ := reads_on h2 H1.out HX.out (by omega)
      obtain ⟨k0, k1, k2, y0, y1, y2⟩ := hx2.all
      simp only [null] at k0 k1 k2
      have HX2 := hide hx2
      have HR := hide hr
      clear h2 hx2 hr
      unfold valAgg
      go_wp2_with fail
      exact end_val Try.results44 rfl rfl (HX2.out.set3 vk vn vs) (HR.out _ fun _ _ hl => hl.set3 (Nat.le_refl _) (by omega) _ _ _)
    · rw [if_neg (by omega), if_neg (by omega), if_pos rfl]
      generalize intG (s.data.toList.drop (a + 1)) = x at *
      clear QB QT
      go_enter Try.func44, Try.ntmps44
      go_wp2_with fail
      refine (Q.out _).mono ?_
      rintro e w1 ⟨rfl, h1⟩
      have HX := hide (h1.box (vbox_new w null) (by omega))
      have H1 := hide h1.from
      clear h1 Q
      go_wp2_with fail
      refine (QI.out _ H1.out).mono ?_
      intro e w2 h2
      obtain ⟨⟨vk, vn, vs⟩, rfl, hx2, hr⟩ := reads_on h2 H1.out HX.out (by omega)
      obtain ⟨k0, k1, k2, y0, y1, y2⟩ := hx2.all
      simp only [null] at k0 k1 k2
      have HX2 := hide hx2
      have HR := hide hr
      clear h2 hx2 hr
      unfold valAgg
      go_wp2_with fail
      exact end_val Try.results44 rfl rfl (HX2.out.set3 vk vn vs) (HR.out _ fun _ _ hl => hl.set3 (Nat.le_refl _) (by omega) _ _ _)
    · rw [if_neg (by omega), if_neg (by omega), if_neg (by omega), if_pos rfl]
      generalize strG (s.data.toList.drop (a + 1)) = x at *
      clear QI QB
      go_enter Try.func44, Try.ntmps44
      go_wp2_with fail
      refine (Q.out _).mono ?_
      rintro e w1 ⟨rfl, h1⟩
      have HX := hide (h1.box (vbox_new w null) (by omega))
      have H1 := hide h1.from
      clear h1 Q
      go_wp2_with fail
      refine (QT.out _ H1.out).mono ?_
      intro e w2 h2
      obtain ⟨⟨vk, vn, vs⟩, rfl, hx2, hr⟩ := reads_on h2 H1.out HX.out (by omega)
      obtain ⟨k0, k1, k2, y0, y1, y2⟩ := hx2.all
      simp only [null] at k0 k1 k2
      have HX2 := hide hx2
      have HR := hide hr
      clear h2 hx2 hr
      unfold valAgg
      go_wp2_with fail
      exact end_val Try.results44 rfl rfl (HX2.out.set3 vk vn vs) (HR.out _ fun _ _ hl => hl.set3 (Nat.le_refl _) (by omega) _ _ _)
    · rw [if_neg n0, if_neg n1, if_neg n2, if_neg n3]
      clear QB QI QT n0 n1 n2 n3
      go_enter Try.func44, Try.ntmps44
      go_wp2_with fail
      refine (Q.out _).mono ?_
      rintro e w1 ⟨rfl, h1⟩
      have HX := hide (h1.box (vbox_new w null) (by omega))
      have H1 := hide h1.from
      have Q2 := hide (fail_yes g s _ 2 w1 h1.1)
      clear h1 Q
      go_wp2_with fail
      refine Q2.out.mono ?_
      rintro e w2 ⟨rfl, h2⟩
      have HX2 := hide (h2.box HX.out (by omega))
      obtain ⟨k0, k1, k2, y0, y1, y2⟩ := HX2.out.all
      simp only [null] at k0 k1 k2
      have H2 := hide (H1.out.then h2)
      clear h2 Q2 H1
      go_wp2_with fail
      exact end_val Try.results44 rfl rfl (HX2.out.set3 0 0 _) ⟨_, _, rfl, H2.out.set3 (Nat.le_refl _) (by omega) _ _ _⟩
  · have Q := hide (fun (o : Obj) => oct_short g s a (w.alloc o) (h.alloc o) (by omega))
    rw [drop_end (by omega)]
    clear h
    go_enter Try.func44, Try.ntmps44
    go_wp2_with fail
    refine (Q.out _).mono ?_
    rintro e w1 ⟨rfl, h1⟩
    obtain ⟨k0, k1, k2, y0, y1, y2⟩ := (h1.box (vbox_new w null) (by omega)).all
    simp only [null] at k0 k1 k2
    have HX := hide (h1.box (vbox_new w null) (by omega))
    have H1 := hide h1.from
    clear h1 Q
    go_wp2_with fail
    exact end_val Try.results44 rfl rfl (HX.out.set3 0 0 _) ⟨_, _, rfl, H1.out.set3 (Nat.le_refl _) (by omega) _ _ _⟩
end Go.Proofs.Ytebamnlknaoehaa
