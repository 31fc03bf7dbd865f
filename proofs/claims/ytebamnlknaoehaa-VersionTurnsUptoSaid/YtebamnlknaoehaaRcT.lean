/- Contracts of the reference's readings: a number, a text, a value. -/
import Derived.Test.YtebamnlknaoehaaRcS
namespace Go.Proofs.Ytebamnlknaoehaa
set_option linter.unusedVariables false
open Go.ChangeShapes Go.WideShapes Go.ChangeAt Go.RowKit

theorem str_get {s : ByteArray} {k : Nat} (h : k < s.size) : s.data.toList[k]? = some s[k] := by
  rw [List.getElem?_eq_getElem (by rw [str_len]; exact h)]
  rfl
theorem rnumber_c (s : ByteArray) (w : World) (h8 : s.size = 8) : Calls Try.prog 61 #[.string s] w fun e w' => e = .returned (.int .i64 (numB s.data.toList)) ∧ w = w' := by
  have hl := str_len s
  go_enter Try.func61, Try.ntmps61
  go_wp2_with fail
  go_loop [3, 4] (fun v i => ∃ k : Nat, k ≤ 8 ∧ i = .int .i64 k ∧ v = .int .u64 (foldB (s.data.toList.take k))) (fun _ i => (8 - intOf i).toNat)
  case atStart => exact ⟨0, by omega, rfl, rfl⟩
  case round =>
    obtain ⟨k, hk, rfl, rfl⟩ := hrel
    by_cases hlt : k < 8
    · have hs : k < s.size := by omega
      have HS := hide (fold_take (str_get hs))
      have hr := fold_small s.data.toList k (by omega)
      have h7 : (256 : Int) ^ 7 = 72057594037927936 := by decide
      rw [h7] at hr
      obtain ⟨hr0, hr1⟩ := hr
      have hc := s[k].toNat_lt
      generalize foldB (s.data.toList.take k) = y at *
      go_wp2
      go_round
      case rel => exact ⟨k + 1, by omega, by go_num, by rw [HS.out, Int.mul_comm]⟩
      case measure => simp [intOf]; omega
    · obtain rfl : k = 8 := by omega
      have e : s.data.toList.take 8 = s.data.toList := List.take_of_length_le (by omega)
      rw [e]
      go_wp2
      go_ret
      exact ⟨ret_int (wrap64_eq _), rfl⟩
/-- What the reference's readings give. -/
def ReadsT (s : ByteArray) (w : World) : Got → Ending → World → Prop
  | .bad c, e, w' => e = .returned (.tuple #[valAgg null, .int .i64 0, .int .i64 c]) ∧ Below w.heap.size w w'
  | .val v r, e, w' => ∃ a' : Nat, e = .returned (.tuple #[valAgg v, .int .i64 a', .int .i64 0]) ∧ Below w.heap.size w w' ∧ s.data.toList.drop a' = r ∧ a' ≤ s.size
theorem end_val3 {f : Func} {p y z : Tmp} (hf : f.results = #[.cell p 49, .tmp y, .tmp z]) {a : Act} {w : World} {b : Nat} {v : ValV} {Q : Ending → World → Prop} (hp : a.tmps.getD p undef = .pointer (some ⟨b, 0, none⟩)) (hd : a.defers = []) (hx : VBox w b v) {y1 z1 : Value} (h1 : a.tmps.getD y undef = y1) (h2 : a.tmps.getD z undef = z1)
    (hq : Q (.returned (.tuple #[valAgg v, y1, z1])) w) : bodyPost Try.prog f Q .ret a w := by
  refine bodyPost_ret (v := .tuple #[valAgg v, y1, z1]) ?_ hd hq
  have hl := run_loadVar_row (P := Try.prog) w b 49 49 _ (0, 0) _ hx Try.underlying49 rfl (by kernel_rfl)
  have hp' : a.tmps[p]?.getD undef = .pointer (some ⟨b, 0, none⟩) := by simpa using hp
  have h1' : a.tmps[y]?.getD undef = y1 := by simpa using h1
  have h2' : a.tmps[z]?.getD undef = z1 := by simpa using h2
  simp [results, hf, hp', asAddr, hl, h1', h2', valAgg, Result.andThen]
theorem below_set3 {B b : Nat} {w w1 : World} (h : Below B w w1) (hb : B ≤ b) (x y z : Value) : Below B w (((w1.setCell ⟨b, 0, none⟩ x).setCell ⟨b, 1, none⟩ y).setCell ⟨b, 2, none⟩ z) :=
  ((h.setCell (p := ⟨b, 0, none⟩) hb x).setCell (p := ⟨b, 1, none⟩) hb y).setCell (p := ⟨b, 2, none⟩) hb z
theorem text_wrong2 {s : ByteArray} {a k z j : Nat} (hj : j = a + k) (h : j < s.size) (hk : k < z) (hc : okByte s[j] = false) : textG z (s.data.toList.drop a) = .bad 2 := by
  subst hj
  exact text_wrong s a k z h hk hc
theorem text_more {s : ByteArray} {a k j : Nat} (hj : j = a + k) (h : j < s.size) (ho : ((s.data.toList.drop a).take k).all okByte = true) (hc : okByte s[j] = true) : ((s.data.toList.drop a).take (k + 1)).all okByte = true := by
  subst hj
  rw [take_at (drop_get h), List.all_append, ho]
  simp [hc]
set_option maxRecDepth 100000 in
set_option maxHeartbeats 1000000 in
theorem rtext_c (s : ByteArray) (a : Nat) (w : World) (ha : a ≤ s.size) (hm : s.size ≤ 1048576) :
    Calls Try.prog 64 #[.string s, .int .i64 a] w (ReadsT s w (strG (s.data.toList.drop a))) := by
  by_cases hlt : a < s.size
  · rw [drop_str hlt, strG_cons]
    have hc := s[a].toNat_lt
    have hx : ¬ (s.size : Int) ≤ a := by omega
    generalize hn : s[a].toNat = n at *
    have HN := hide hn
    clear hn
    by_cases hb : n ≤ 100
    · rw [if_pos hb]
      generalize hgx : textG n (s.data.toList.drop (a + 1)) = x
      have HGX := hide hgx
      clear hgx
      have hg : ((s[a].toNat : Nat) : Int) = n := by rw [HN.out]
      go_enter Try.func64, Try.ntmps64
      go_wp2_with fail
      go_loop [8] (fun i => ∃ K : Nat, 1 ≤ K ∧ K ≤ n + 1 ∧ i = .int .i64 K ∧ a + K ≤ s.size ∧ Hid (((s.data.toList.drop (a + 1)).take (K - 1)).all okByte = true)) (fun i => (n + 1 - intOf i).toNat)
      case atStart => exact ⟨1, by omega, by omega, rfl, by omega, rfl⟩
      case round =>
        obtain ⟨K, hK1, hKn, rfl, hKs, HO⟩ := hrel
        by_cases hlast : K ≤ n
        · by_cases hs : a + K < s.size
          · rcases okByte_cases s[a + K] with ⟨o1, o2, o3⟩ | ⟨o1, o2⟩ | ⟨o1, o2, o3⟩
            · have HM := hide (text_more (k := K - 1) (by omega) hs HO.out o1)
              clear o1
              go_wp2
              go_round
              case rel => exact ⟨K + 1, by omega, by omega, by go_num, by omega, by rw [show K + 1 - 1 = K - 1 + 1 by omega]; exact HM⟩
              case measure => simp [intOf]; omega
            all_goals
              have hxe : x = .bad 2 := by rw [← HGX.out]; exact text_wrong2 (k := K - 1) (by omega) hs (by omega) o1
              subst hxe
              clear o1 HGX
              go_wp2
              exact end_val3 Try.results64 rfl rfl (vbox_new w null) rfl rfl ⟨rfl, Bel.one _ _⟩
          · have hxe : x = .bad 3 := by rw [← HGX.out]; exact text_short s (a + 1) (K - 1) n (by omega) (by omega) (by omega) (by omega) HO.out
            subst hxe
            clear HGX
            have hs2 : (s.size : Int) ≤ (a : Int) + K := by omega
            go_wp2
            exact end_val3 Try.results64 rfl rfl (vbox_new w null) rfl rfl ⟨rfl, Bel.one _ _⟩
        · obtain rfl : K = n + 1 := by omega
          have hxe : x = .val ⟨3, 0, s.extract (a + 1) (a + 1 + n)⟩ (s.data.toList.drop (a + 1 + n)) := by rw [← HGX.out]; exact text_end s (a + 1) n (by omega) (by have := HO.out; rwa [show n + 1 - 1 = n by omega] at this)
          subst hxe
          have QN := hide (fun W => rstr_c (s.extract (a + 1) (a + 1 + n)) W)
          have hsl : ∀ W, (Instr.slice 9 (.string s) (some (.int .i64 ((a : Int) + 1))) (some (.int .i64 ((a : Int) + 1 + n))) none).run Try.prog W = .ok (.string (s.extract (a + 1) (a + 1 + n))) W := fun W => by
            rw [run_slice_string (P := Try.prog) W 9 s .i64 .i64 ((a : Int) + 1) ((a : Int) + 1 + n) Try.underlying9 (by omega) (by omega) (by omega)]
            have e1 : ((a : Int) + 1).toNat = a + 1 := by omega
            have e2 : ((a : Int) + 1 + n).toNat = a + 1 + n := by omega
            rw [e1, e2]
          clear HGX HO
          go_wp2_with fail
          refine (QN.out _).mono ?_
          rintro e w3 ⟨rfl, hb3⟩
          have HX3 := hide (VBox.kept (vbox_new w null) hb3)
          have HB3 := hide (Bel.then (Bel.one w _) hb3)
          obtain ⟨k0, k1, k2, y0, y1, y2⟩ := HX3.out.all
          simp only [null] at k0 k1 k2
          unfold valAgg
          clear hb3 hsl QN
          go_wp2_with fail
          exact end_val3 Try.results64 rfl rfl (HX3.out.set3 3 0 _) rfl rfl ⟨a + 1 + n, by go_num, below_set3 HB3.out (Nat.le_refl _) _ _ _, rfl, by omega⟩
    · rw [if_neg hb]
      have hg : ((s[a].toNat : Nat) : Int) = n := by rw [HN.out]
      go_enter Try.func64, Try.ntmps64
      go_wp2_with fail
      exact end_val3 Try.results64 rfl rfl (vbox_new w null) rfl rfl ⟨rfl, Bel.one _ _⟩
  · rw [drop_end (by omega)]
    have hx : (s.size : Int) ≤ a := by omega
    go_enter Try.func64, Try.ntmps64
    go_wp2_with fail
    exact end_val3 Try.results64 rfl rfl (vbox_new w null) rfl rfl ⟨rfl, Bel.one _ _⟩
end Go.Proofs.Ytebamnlknaoehaa
