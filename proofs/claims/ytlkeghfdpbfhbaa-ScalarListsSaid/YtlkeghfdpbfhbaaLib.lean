/- Words of my own: slices that read as lists of cells, endings, appends. Nothing here speaks of the program. -/
import Derived.WalkKit
import Derived.ProofKit
import Derived.Outline
import Derived.Below
import Derived.Lib.Hide
import Derived.Lib.SmallJoins
import Derived.ChangeSlices
import Derived.Deep.Slices
import Derived.Deep.Draws
import Derived.OpenShut
import Derived.Laws.OwnMore
import Derived.Deep.AppendLies
import Derived.Maps.AppendAt
import Derived.RegionTactic
import Derived.OwnWalk
import Derived.Deep.RegionHeld3
import Derived.Laws.Rows
import Derived.Deep.QuietTactic
import Derived.BigQuiet
namespace Go.Proofs.Ytlkeghfdpbfhbaa
set_option linter.unusedVariables false
open Go.ChangeShapes Go.WideShapes Go.ChangeAt Go.RowKit

theorem ret_int {k : IntKind} {a b : Int} (h : a = b) : Ending.returned (.int k a) = .returned (.int k b) := by rw [h]
theorem ret_bool {a b : Bool} (h : a = b) : Ending.returned (.bool a) = .returned (.bool b) := by rw [h]
theorem hide {p : Prop} (h : p) : Hid p := h
theorem add_off (b off i : Nat) : (⟨b, off, none⟩ : Addr).add i = ⟨b, off + i, none⟩ := by simp only [Addr.add]; split <;> simp_all

/-- Two steps that write nothing below where they begin. -/
theorem Bel.then {a b c : World} (h : Below a.heap.size a b) (k : Below b.heap.size b c) : Below a.heap.size a c := h.trans (k.mono h.size)
theorem Bel.alloc {a b : World} (h : Below a.heap.size a b) (o : Obj) : Below a.heap.size a (b.alloc o) := Below.alloc h h.size o
theorem Bel.one (a : World) (o : Obj) : Below a.heap.size a (a.alloc o) := (Below.refl _ _).alloc (Nat.le_refl _) o

/-- A call that leaves the world alone, in a region that draws its order. -/
theorem quiet_l {P : Program} {f : FuncId} {args : Array Value} {w : World} {n : Nat} {v : Value} (h : Calls P f args (w.drewN n) fun e w' => e = .returned v ∧ w.drewN n = w') :
    Calls P f args (w.drewN n) fun e w'' => e = .returned v ∧ ∃ m, w'' = w.drewN m := h.mono fun _ _ ⟨he, hm⟩ => ⟨he, n, hm.symm⟩
/-- Nothing that was there before a call has turned. -/
theorem kept {a b : World} (h : Below a.heap.size a b) {p : Addr} {v : Value} (hc : a.cell? p = some v) : b.cell? p = some v := (h.cell (World.block_lt_of_cell? a p hc)).trans hc
theorem Bel.drew {a b : World} (h : Below a.heap.size a b) : Below a.heap.size a b.drew := h.drew
theorem Bel.drewN {a b : World} (h : Below a.heap.size a b) (n : Nat) : Below a.heap.size a (b.drewN n) := ⟨h.os, h.tape, h.output, h.size, h.block⟩
theorem box4 (w : World) (x y z u : Value) (t : TypeId) : (w.alloc (.cells #[x, y, z, u] t)).cell? ⟨w.heap.size, 0, none⟩ = some x ∧ (w.alloc (.cells #[x, y, z, u] t)).cell? ⟨w.heap.size, 1, none⟩ = some y ∧ (w.alloc (.cells #[x, y, z, u] t)).cell? ⟨w.heap.size, 2, none⟩ = some z ∧ (w.alloc (.cells #[x, y, z, u] t)).cell? ⟨w.heap.size, 3, none⟩ = some u :=
  ⟨cell_of_row _ _ 0 _ _ _ (heap_alloc_new w _), cell_of_row _ _ 1 _ _ _ (heap_alloc_new w _), cell_of_row _ _ 2 _ _ _ (heap_alloc_new w _), cell_of_row _ _ 3 _ _ _ (heap_alloc_new w _)⟩
theorem keep4 {W a b : World} {p q r s : Addr} {x y z u : Value} (h : Below a.heap.size a b) (h0 : Below W.heap.size W a) (h1 : a.cell? p = some x) (h2 : a.cell? q = some y) (h3 : a.cell? r = some z) (h4 : a.cell? s = some u) :
    Below W.heap.size W b ∧ b.cell? p = some x ∧ b.cell? q = some y ∧ b.cell? r = some z ∧ b.cell? s = some u := ⟨Bel.then h0 h, kept h h1, kept h h2, kept h h3, kept h h4⟩
/-- A struct of three cells that the call has boxed: where it lies, and that nothing elder has turned. -/
theorem box3 (w : World) (x y z : Value) (t : TypeId) : (w.alloc (.cells #[x, y, z] t)).cell? ⟨w.heap.size, 0, none⟩ = some x ∧ (w.alloc (.cells #[x, y, z] t)).cell? ⟨w.heap.size, 1, none⟩ = some y ∧ (w.alloc (.cells #[x, y, z] t)).cell? ⟨w.heap.size, 2, none⟩ = some z :=
  ⟨cell_of_row _ _ 0 _ _ _ (heap_alloc_new w _), cell_of_row _ _ 1 _ _ _ (heap_alloc_new w _), cell_of_row _ _ 2 _ _ _ (heap_alloc_new w _)⟩
theorem keep3 {W a b : World} {p q r : Addr} {x y z : Value} (h : Below a.heap.size a b) (h0 : Below W.heap.size W a) (h1 : a.cell? p = some x) (h2 : a.cell? q = some y) (h3 : a.cell? r = some z) :
    Below W.heap.size W b ∧ b.cell? p = some x ∧ b.cell? q = some y ∧ b.cell? r = some z := ⟨Bel.then h0 h, kept h h1, kept h h2, kept h h3⟩

/-- A leads to a row that begins with the cells xs, in a block below B. -/
def Cells (w : World) (B : Nat) (A : Option Addr) (xs : List Value) : Prop :=
  0 < xs.length → ∃ b off, A = some ⟨b, off, none⟩ ∧ b < B ∧ ∀ i u, xs[i]? = some u → w.cell? ⟨b, off + i, none⟩ = some u
theorem Cells.none (w : World) (B : Nat) (A : Option Addr) : Cells w B A [] := fun h => absurd h (by simp)
theorem Cells.keep {w w' : World} {B : Nat} {A : Option Addr} {xs : List Value} (h : Cells w B A xs) (hk : ∀ p : Addr, p.block < B → w'.cell? p = w.cell? p) : Cells w' B A xs := fun hn => by
  obtain ⟨b, off, e, hlt, hc⟩ := h hn
  exact ⟨b, off, e, hlt, fun i u hu => (hk ⟨b, off + i, _⟩ hlt).trans (hc i u hu)⟩
theorem Cells.below {w w' : World} {B : Nat} {A : Option Addr} {xs : List Value} (h : Cells w B A xs) (hb : Below B w w') : Cells w' B A xs := h.keep fun _ hp => hb.cell hp
theorem Cells.more {w : World} {B B' : Nat} {A : Option Addr} {xs : List Value} (h : Cells w B A xs) (hB : B ≤ B') : Cells w B' A xs := fun hn => by
  obtain ⟨b, off, e, hlt, hc⟩ := h hn
  exact ⟨b, off, e, by omega, hc⟩
theorem Cells.of_own {w : World} {base : Nat} {e : TypeId} {size c n : Nat} {A : Option Addr} {xs : List Value} (hs : w.ownsRow base e size (.slice A n c) n xs) : Cells w w.heap.size A xs := fun hn => by
  rcases hs.2 with ⟨hv, hz⟩ | ⟨g, cap, cur, hv, hb, hh, hnc, hm, hcs, ht⟩
  · rw [hs.1, hz] at hn; simp at hn
  · injection hv with h1 h2 h3
    subst h1
    have := hs.cells (g := g) rfl
    refine ⟨g, 0, rfl, (hs.lt g rfl).2, fun i u hu => ?_⟩
    have := this i u hu
    rwa [add_off] at this

theorem own_form {w : World} {base : Nat} {e : TypeId} {size n : Nat} {v : Value} {xs : List Value} (hs : w.ownsRow base e size v n xs) : ∃ A c, v = .slice A n c ∧ n ≤ c ∧ (A = none → n = 0) ∧ Cells w w.heap.size A xs := by
  rcases id hs.2 with ⟨hv, hz⟩ | ⟨g, cap, cur, hv, hb, hh, hnc, hm, hcs, ht⟩
  · subst hv hz
    exact ⟨none, 0, rfl, Nat.le_refl _, fun _ => rfl, Cells.of_own hs⟩
  · subst hv
    exact ⟨_, _, rfl, hnc, (fun h => by cases h), Cells.of_own hs⟩
theorem own_grown {W a b : World} {row : Option Nat} (h : Below W.heap.size W a) (hg : a.grownBy b row) (hr : ∀ k, row = some k → W.heap.size ≤ k) : Below W.heap.size W b := h.grown hg h.size hr

theorem own_next {B : Nat} {a : World} {v v' : Value} (hat : v'.ownBlock = v.ownBlock ∨ v'.ownBlock = some a.heap.size) (hv : ∀ k, v.ownBlock = some k → B ≤ k) (h : B ≤ a.heap.size) : ∀ k, v'.ownBlock = some k → B ≤ k := by
  intro k hk
  rcases hat with e | e
  · exact hv k (e ▸ hk)
  · rw [e] at hk
    injection hk with hk
    omega
theorem own_new (B g n c : Nat) (h : B ≤ g) : ∀ k, (Value.slice (some ⟨g, 0, none⟩) n c).ownBlock = some k → B ≤ k := by
  intro k hk
  injection hk with hk
  have : g = k := hk
  omega

/-- Two rows of the call's own, one of which has been appended to. -/
theorem own_other {w w' : World} {base' : Nat} {e' : TypeId} {size' m : Nat} {v v' u : Value} {ys : List Value} (hu : w.ownsRow base' e' size' u m ys)
    (hne : v.ownBlock = none ∨ v.ownBlock ≠ u.ownBlock) (hg : w.grownBy w' v.ownBlock) (hat : v'.ownBlock = v.ownBlock ∨ v'.ownBlock = some w.heap.size) :
    w'.ownsRow base' e' size' u m ys ∧ (v'.ownBlock = none ∨ v'.ownBlock ≠ u.ownBlock) := by
  refine ⟨hu.kept hg ?_, ?_⟩
  · by_cases h : u.ownBlock = none
    · exact .inl h
    · rcases hne with h1 | h1
      · right; rw [h1]; exact h
      · exact .inr (Ne.symm h1)
  · rcases hat with h | h
    · rw [h]; exact hne
    · right
      rw [h]
      intro h2
      have := (hu.lt _ h2.symm).2
      omega
theorem ne_sym {u v : Value} (h : u.ownBlock = none ∨ u.ownBlock ≠ v.ownBlock) : v.ownBlock = none ∨ v.ownBlock ≠ u.ownBlock := by
  rcases h with h | h
  · by_cases h' : v.ownBlock = none
    · exact .inl h'
    · exact .inr (by rw [h]; exact h')
  · exact .inr (Ne.symm h)

/-- append of a slice that reads as cells, onto a row of the call's own -/
theorem run_app {P : Program} (w : World) (base : Nat) (t ty e : TypeId) (i : TypeInfo) (z : Value) (size bytes : Nat) (ht : P.underlying t = some (.slice e)) (hi : P.info? e = some i) (hz : i.zero = some z)
    (hsize : i.size = size) (hby : i.bytes = bytes) (hzs : z.cells.size = size) (hsz : 0 < size)
    (v : Value) (n : Nat) (xs : List Value) (hown : w.ownsRow base e size v n xs)
    (B : Nat) (A : Option Addr) (m c : Nat) (news : List Value) (hl : news.length = m * size) (hr : Cells w B A news) (h1 : ∀ u ∈ news, u.oneCell' = true)
    (h63 : n + m ≤ maxLen) (hbytes : (n + m) * bytes ≤ 140737488355328) (hbase : base ≤ w.heap.size) (hnil : A = none → m = 0) :
    ∃ v' w', (Builtin.append_ #[t, t] ty #[v, .slice A m c]).run P w = .ok v' w' ∧ w'.ownsRow base e size v' (n + m) (xs ++ news) ∧ w.grownBy w' v.ownBlock ∧ (v'.ownBlock = v.ownBlock ∨ v'.ownBlock = some w.heap.size) := by
  cases A with
  | none =>
    have hm := hnil rfl
    subst hm
    have hn : news = [] := List.eq_nil_of_length_eq_zero (by simpa using hl)
    subst hn
    refine ⟨v, w, ?_, by simpa using hown, World.grownBy.refl w _, .inl rfl⟩
    rcases hown.2 with ⟨rfl, rfl⟩ | ⟨g, cap, cur, rfl, _, _, hnc, _⟩
    · simp [Builtin.append_, run_underlying ht, sizeOf, typeInfo, hi, Builtin.lenOf, Builtin.firstCells]
    · simp [Builtin.append_, run_underlying ht, sizeOf, typeInfo, hi, Builtin.lenOf, Builtin.firstCells, hnc, storeCells]
  | some ad =>
    have hcells : ∀ j u, news[j]? = some u → w.cell? (ad.add j) = some u := by
      intro j u hu
      have hlt := (List.getElem?_eq_some_iff.1 hu).1
      obtain ⟨b, off, e, _, hc⟩ := hr (by omega)
      injection e with e
      subst e
      rw [add_off]
      exact hc j u hu
    obtain ⟨v', w', hrun, h2, h3, _, h5⟩ := run_append_own_at (P := P) w base t ty e i z size bytes ht hi hz hsize hby hzs hsz v n xs hown ad m c news hl hcells h1 h63 hbytes hbase
    exact ⟨v', w', hrun, h2, h3, h5⟩

theorem wpList_app {P : Program} {w : World} {ops : Array Oper} {rest : List Oper} {o : Oper} {a : Act} {Q : Exit → Act → World → Prop} (hgd : o.guard = none) (s x : Operand) (t : TypeId)
    (ho : o.op = .call { callee := .builtin .append, args := #[s, x], argTypes := #[t, t] })
    (base : Nat) (e : TypeId) (i : TypeInfo) (z : Value) (size bytes : Nat) (ht : P.underlying t = some (.slice e)) (hi : P.info? e = some i) (hz : i.zero = some z)
    (hsize : i.size = size) (hby : i.bytes = bytes) (hzs : z.cells.size = size) (hsz : 0 < size)
    (v : Value) (n : Nat) (xs : List Value) (hs : a.eval s = v) (hown : w.ownsRow base e size v n xs)
    (B : Nat) (A : Option Addr) (m c : Nat) (news : List Value) (hx : a.eval x = .slice A m c) (hl : news.length = m * size) (hr : Cells w B A news) (h1 : ∀ u ∈ news, u.oneCell' = true)
    (h63 : n + m ≤ maxLen) (hbytes : (n + m) * bytes ≤ 140737488355328) (hbase : base ≤ w.heap.size) (hnil : A = none → m = 0)
    (h : ∀ v' w', w'.ownsRow base e size v' (n + m) (xs ++ news) → w.grownBy w' v.ownBlock → (v'.ownBlock = v.ownBlock ∨ v'.ownBlock = some w.heap.size) → wpList P ops Q rest (a.put o.dst v') w') : wpList P ops Q (o :: rest) a w := by
  refine wpList_plain hgd fun K hK => ?_
  obtain ⟨v', w', hrun, h2, h3, h4⟩ := run_app (P := P) w base t o.type e i z size bytes ht hi hz hsize hby hzs hsz v n xs hown B A m c news hl hr h1 h63 hbytes hbase hnil
  unfold Oper.wp execOp
  simp only [ho, resolve, invoke, builtin, Sem.run_bind, Sem.run_pure, Result.andThen_ok, List.map_toArray, List.map_cons, List.map_nil, hs, hx, hrun]
  exact hK _ _ (h v' w' h2 h3 h4)

/-- The slice (A, n) reads as the ints zs. -/
def Ints (w : World) (B : Nat) (A : Option Addr) (n : Nat) (zs : List Int) : Prop := zs.length = n ∧ Cells w B A (zs.map (.int .i64))
theorem Ints.below {w w' : World} {B : Nat} {A : Option Addr} {n : Nat} {zs : List Int} (h : Ints w B A n zs) (hb : Below B w w') : Ints w' B A n zs := ⟨h.1, h.2.below hb⟩
theorem Ints.at {w : World} {B : Nat} {A : Option Addr} {n : Nat} {zs : List Int} (h : Ints w B A n zs) (hn : 0 < n) : ∃ b off, A = some ⟨b, off, none⟩ ∧ b < B ∧ ∀ k, k < n → w.cell? ⟨b, off + k, none⟩ = some (.int .i64 (zs.getD k 0)) := by
  obtain ⟨b, off, e, hlt, hc⟩ := h.2 (by simpa [h.1] using hn)
  refine ⟨b, off, e, hlt, fun k hk => hc k _ ?_⟩
  have hk' : k < zs.length := by rw [h.1]; exact hk
  simp [List.getD, hk']

theorem Ints.two {w : World} {B : Nat} {A : Option Addr} {a b : Int} {r : List Int} {n : Nat} (h : Ints w B A n (a :: b :: r)) : ∃ g off, A = some ⟨g, off, none⟩ ∧ g < B ∧ w.cell? ⟨g, off, none⟩ = some (.int .i64 a) ∧ w.cell? ⟨g, off + 1, none⟩ = some (.int .i64 b) := by
  obtain ⟨g, off, rfl, hlt, hc⟩ := h.at (by have := h.1; simp at this; omega)
  have hn := h.1
  simp at hn
  exact ⟨g, off, rfl, hlt, hc 0 (by omega), hc 1 (by omega)⟩
theorem Ints.get {w : World} {B : Nat} {A : Option Addr} {n : Nat} {zs : List Int} (h : Ints w B A n zs) {k : Nat} (hk : k < n) :
    ∃ b off z, A = some ⟨b, off, none⟩ ∧ b < B ∧ w.cell? ⟨b, off + k, none⟩ = some (.int .i64 z) ∧ Hid (zs.take (k + 1) = zs.take k ++ [z]) ∧ Hid (zs.getD k 0 = z) := by
  obtain ⟨b, off, e, hlt, hc⟩ := h.at (by omega)
  have hk' : k < zs.length := by rw [h.1]; exact hk
  exact ⟨b, off, _, e, hlt, hc k hk, by show zs.take (k + 1) = _; rw [List.take_succ_eq_append_getElem hk']; simp [List.getD, hk'], rfl⟩

theorem cells_lit (w : World) (cs : Array Value) (t : TypeId) : Cells (w.alloc (.cells cs t)) (w.heap.size + 1) (some ⟨w.heap.size, 0, none⟩) cs.toList := fun _ =>
  ⟨_, 0, rfl, by omega, fun i u hu => by
    rw [Nat.zero_add, cell_of_row _ _ i _ _ _ (heap_alloc_new w _)]
    simpa using hu⟩
theorem ints_lit (w : World) (zs : List Int) (t : TypeId) {cs : Array Value} (h : cs.toList = zs.map (.int .i64)) {n : Nat} (hn : zs.length = n) : Ints (w.alloc (.cells cs t)) (w.heap.size + 1) (some ⟨w.heap.size, 0, none⟩) n zs := ⟨hn, h ▸ cells_lit w cs t⟩
theorem Ints.more {w : World} {B B' : Nat} {A : Option Addr} {n : Nat} {zs : List Int} (h : Ints w B A n zs) (hB : B ≤ B') : Ints w B' A n zs := ⟨h.1, h.2.more hB⟩
theorem Ints.kept {w w' : World} {A : Option Addr} {n : Nat} {zs : List Int} (h : Ints w w.heap.size A n zs) (hb : Below w.heap.size w w') : Ints w' w'.heap.size A n zs := (h.below hb).more hb.size
theorem Cells.kept {w w' : World} {A : Option Addr} {xs : List Value} (h : Cells w w.heap.size A xs) (hb : Below w.heap.size w w') : Cells w' w'.heap.size A xs := (h.below hb).more hb.size

/-- The length of a slice's value: for a loop's measure. -/
def lenV : Value → Nat | .slice _ n _ => n | _ => 0
/-- A slice cut at its front. -/
theorem Ints.cut {w : World} {B : Nat} {A : Option Addr} {n c k : Nat} {zs : List Int} (h : Ints w B A n zs) (hk : k ≤ n) (hc : n ≤ c) : Ints w B (if c = k then A else A.map (·.add k)) (n - k) (zs.drop k) := by
  refine ⟨by simp [h.1], fun hn => ?_⟩
  have hn' : k < n := by simp [h.1] at hn; omega
  obtain ⟨b, off, rfl, hlt, hcell⟩ := h.2 (by simp [h.1]; omega)
  rw [if_neg (by omega)]
  refine ⟨b, off + k, by simp [add_off], hlt, fun i u hu => ?_⟩
  rw [Nat.add_assoc]
  refine hcell (k + i) u ?_
  rw [← hu]
  simp
/-- Where A leads is not below block B. -/
def FreshA (B : Nat) (A : Option Addr) : Prop := ∀ ad, A = some ad → B ≤ ad.block
theorem FreshA.mono {B B' : Nat} {A : Option Addr} (h : FreshA B A) (hB : B' ≤ B) : FreshA B' A := fun ad e => Nat.le_trans hB (h ad e)
theorem FreshA.new {B b o : Nat} (h : B ≤ b) : FreshA B (some ⟨b, o, none⟩) := fun ad e => by injection e with e; subst e; exact h
theorem Cells.set {w : World} {B : Nat} {A : Option Addr} {xs : List Value} (h : Cells w B A xs) {p : Addr} (hne : FreshA (p.block + 1) A) (u : Value) : Cells (w.setCell p u) B A xs := fun hn => by
  obtain ⟨b, off, e, hlt, hc⟩ := h hn
  have hb : p.block + 1 ≤ b := hne _ e
  refine ⟨b, off, e, hlt, fun i v hv => ?_⟩
  rw [World.cell?_of_block (Below.heap_setCell w p u b (by omega))]
  exact hc i v hv
theorem Ints.set {w : World} {B : Nat} {A : Option Addr} {n : Nat} {zs : List Int} (h : Ints w B A n zs) {p : Addr} (hne : FreshA (p.block + 1) A) (u : Value) : Ints (w.setCell p u) B A n zs := ⟨h.1, h.2.set hne u⟩
theorem new_unfrozen (w : World) (cs : Array Value) (t : TypeId) (i : Nat) : (w.alloc (.cells cs t)).frozen? ⟨w.heap.size, i, none⟩ = false := by
  have h := heap_alloc_new w (.cells cs t)
  unfold World.frozen?
  simp only [h]
  simp
theorem kept_frozen {a b : World} (h : Below a.heap.size a b) {p : Addr} (hp : p.block < a.heap.size) {f : Bool} (hf : a.frozen? p = f) : b.frozen? p = f := (h.frozen hp).trans hf
/-- The call hands back a slice in memory that reads as the ints zs, and nothing elder has turned. -/
def GivesInts (w : World) (n : Nat) (zs : List Int) (e : Ending) (w' : World) : Prop := ∃ A c, e = .returned (.slice A n c) ∧ Ints w' w'.heap.size A n zs ∧ Below w.heap.size w w' ∧ FreshA w.heap.size A
/-- An array of four ints by value. -/
theorem open_arr4 {H : Type} {enc : TypeId × Value → H} {P : Program} {w : World} {base : Nat} {t e : TypeId} {v : Value} {d : DataW H} {p : List MemPlace}
    (ht : P.underlying t = some (.array 4 e)) (he : P.underlying e = some (.int .i64)) (hc : P.cellsOf e = 1) (hC : P.cellsOf t = 4)
    (hok : Value.okWide P w .any base t v) (h : DataW.Trod enc P w 0 (fun _ => true) true t v d p) :
    ∃ a b c f : Int, v = .agg #[.int .i64 a, .int .i64 b, .int .i64 c, .int .i64 f] ∧ (Lit.int .i64 a).wf = true ∧ (Lit.int .i64 b).wf = true ∧ (Lit.int .i64 c).wf = true ∧ (Lit.int .i64 f).wf = true := by
  simp only [Value.okWide, ht] at hok
  obtain ⟨cs, rfl, hsz, _⟩ := hok
  obtain ⟨l⟩ := cs
  match l, hsz.trans hC with
  | [c0, c1, c2, c3], _ =>
    obtain ⟨fuel, hf⟩ := h
    obtain ⟨xs, m, _, _, _, hlen, hg⟩ := DataW.trod_array ht hf
    match xs, hlen with
    | [y0, y1, y2, y3], _ =>
      obtain ⟨a, e0, _, wa⟩ := DataW.trod_int he (by simpa [Value.cells, hc] using hg 0 (by omega))
      obtain ⟨b, e1, _, wb⟩ := DataW.trod_int he (by simpa [Value.cells, hc] using hg 1 (by omega))
      obtain ⟨c, e2, _, wc⟩ := DataW.trod_int he (by simpa [Value.cells, hc] using hg 2 (by omega))
      obtain ⟨f, e3, _, wf⟩ := DataW.trod_int he (by simpa [Value.cells, hc] using hg 3 (by omega))
      simp at e0 e1 e2 e3
      subst e0 e1 e2 e3
      exact ⟨a, b, c, f, rfl, wa, wb, wc, wf⟩

/-- A slice of ints that came in. -/
theorem open_Ints {H : Type} {enc : TypeId × Value → H} {P : Program} {w : World} {base : Nat} {t e : TypeId} {v : Value} {d : DataW H} {p : List MemPlace}
    (ht : P.underlying t = some (.slice e)) (he : P.underlying e = some (.int .i64)) (hc : P.cellsOf e = 1)
    (hok : Value.okWide P w .any base t v) (h : DataW.Trod enc P w 0 (fun _ => true) true t v d p) :
    ∃ A n c zs, v = .slice A n c ∧ n ≤ c ∧ c ≤ maxLen ∧ (A = none → n = 0) ∧ Ints w w.heap.size A n zs ∧ (∀ z ∈ zs, (Lit.int .i64 z).wf = true) ∧ ((d = .nil ∧ n = 0) ∨ ∃ sp, d = .slice (zs.map fun z => .lit (.int .i64 z)) sp) := by
  obtain ⟨a0, len0, cap0, rfl⟩ := okWide_slice ht hok
  obtain ⟨fuel, hf⟩ := h
  rcases open_ints ht he hc hf with ⟨hcs, hx⟩ | ⟨x, l, c, zs, hcs, _, hl, hm, hz, hx, hcell, hwz⟩
  · simp [Value.cells] at hcs
    obtain ⟨rfl, rfl, rfl⟩ := hcs
    simp only [Prod.mk.injEq] at hx
    exact ⟨none, 0, 0, [], rfl, Nat.le_refl _, Nat.zero_le _, fun _ => rfl, ⟨rfl, Cells.none _ _ _⟩, by simp, .inl ⟨hx.1, rfl⟩⟩
  · simp [Value.cells] at hcs
    obtain ⟨rfl, rfl, rfl⟩ := hcs
    simp only [Prod.mk.injEq] at hx
    have hzc : zs.length = cap0 := by simpa using hz
    refine ⟨_, _, _, zs.take len0, rfl, hl, hm, by simp, ⟨by simp; omega, fun hn => ?_⟩, fun z hz' => hwz z (List.mem_of_mem_take hz'), .inr ⟨_, hx.1⟩⟩
    have hn' : 0 < zs.length := by simp at hn; omega
    have hc0 := hcell 0 hn'
    obtain ⟨b, off, spot⟩ := x
    have hspot : spot = none := by simpa [Addr.add] using World.cell?_spot hc0
    subst hspot
    refine ⟨b, off, rfl, World.block_lt_of_cell? (a := ⟨b, off, none⟩) w (by simpa [Addr.add] using hc0), fun i u hu => ?_⟩
    have hi : i < (zs.take len0).length := by simpa using (List.getElem?_eq_some_iff.1 hu).1
    have hi' : i < zs.length := by simp at hi; omega
    have := hcell i hi'
    rw [add_off] at this
    rw [this, ← hu]
    simp at hi
    simp [List.getD, hi, hi']
end Go.Proofs.Ytlkeghfdpbfhbaa
