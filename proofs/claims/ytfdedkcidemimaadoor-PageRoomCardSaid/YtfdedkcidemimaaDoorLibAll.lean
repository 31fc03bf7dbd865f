/- What the texts behind this one use: Lib, Lib2, Recs, Bulk, Nth, Sl, Tab, Field, Copy, Nest, Oct, Sum, Put, Seal, RPut, PutM, RSum, SumM, FindM. -/
import Derived.WalkKit
import Derived.ProofKit
import Derived.Outline
import Derived.Below
import Derived.Lib.Hide
import Derived.Lib.SmallJoins
import Derived.ChangeSlices
import Derived.Deep.Slices
import Derived.Deep.Draws
import Derived.OpenShut
import Derived.Laws.OwnMore
import Derived.Deep.AppendLies
import Derived.Maps.AppendAt
import Derived.RegionTactic
import Derived.OwnWalk
import Derived.Deep.RegionHeld3
import Derived.Laws.Rows
import Derived.Deep.QuietTactic
import Derived.BigQuiet
import Derived.Deep.Fields
import Derived.ChangeSame
import Derived.Test.YtfdedkcidemimaaDoorRows
import Derived.Deep.OwnRows
import Derived.Laws.CopyOwn
import Derived.Lib.LaidTab
import Derived.Handy
import Derived.Laws.BytesArg
namespace Go.Proofs.YtfdedkcidemimaaDoor
set_option linter.unusedVariables false
open Go.ChangeShapes Go.WideShapes Go.ChangeAt Go.RowKit

theorem ret_int {k : IntKind} {a b : Int} (h : a = b) : Ending.returned (.int k a) = .returned (.int k b) := by rw [h]
theorem ret_bool {a b : Bool} (h : a = b) : Ending.returned (.bool a) = .returned (.bool b) := by rw [h]
theorem hide {p : Prop} (h : p) : Hid p := h
theorem add_off (b off i : Nat) : (⟨b, off, none⟩ : Addr).add i = ⟨b, off + i, none⟩ := by simp only [Addr.add]; split <;> simp_all

/-- Two steps that write nothing below where they begin. -/
theorem Bel.then {a b c : World} (h : Below a.heap.size a b) (k : Below b.heap.size b c) : Below a.heap.size a c := h.trans (k.mono h.size)
theorem Bel.alloc {a b : World} (h : Below a.heap.size a b) (o : Obj) : Below a.heap.size a (b.alloc o) := Below.alloc h h.size o
theorem Bel.one (a : World) (o : Obj) : Below a.heap.size a (a.alloc o) := (Below.refl _ _).alloc (Nat.le_refl _) o

/-- A call that leaves the world alone, in a region that draws its order. -/
theorem quiet_l {P : Program} {f : FuncId} {args : Array Value} {w : World} {n : Nat} {v : Value} (h : Calls P f args (w.drewN n) fun e w' => e = .returned v ∧ w.drewN n = w') :
    Calls P f args (w.drewN n) fun e w'' => e = .returned v ∧ ∃ m, w'' = w.drewN m := h.mono fun _ _ ⟨he, hm⟩ => ⟨he, n, hm.symm⟩
/-- Nothing that was there before a call has turned. -/
theorem kept {a b : World} (h : Below a.heap.size a b) {p : Addr} {v : Value} (hc : a.cell? p = some v) : b.cell? p = some v := (h.cell (World.block_lt_of_cell? a p hc)).trans hc
theorem Bel.drew {a b : World} (h : Below a.heap.size a b) : Below a.heap.size a b.drew := h.drew
theorem Bel.drewN {a b : World} (h : Below a.heap.size a b) (n : Nat) : Below a.heap.size a (b.drewN n) := ⟨h.os, h.tape, h.output, h.size, h.block⟩
theorem box4 (w : World) (x y z u : Value) (t : TypeId) : (w.alloc (.cells #[x, y, z, u] t)).cell? ⟨w.heap.size, 0, none⟩ = some x ∧ (w.alloc (.cells #[x, y, z, u] t)).cell? ⟨w.heap.size, 1, none⟩ = some y ∧ (w.alloc (.cells #[x, y, z, u] t)).cell? ⟨w.heap.size, 2, none⟩ = some z ∧ (w.alloc (.cells #[x, y, z, u] t)).cell? ⟨w.heap.size, 3, none⟩ = some u :=
  ⟨cell_of_row _ _ 0 _ _ _ (heap_alloc_new w _), cell_of_row _ _ 1 _ _ _ (heap_alloc_new w _), cell_of_row _ _ 2 _ _ _ (heap_alloc_new w _), cell_of_row _ _ 3 _ _ _ (heap_alloc_new w _)⟩
theorem keep4 {W a b : World} {p q r s : Addr} {x y z u : Value} (h : Below a.heap.size a b) (h0 : Below W.heap.size W a) (h1 : a.cell? p = some x) (h2 : a.cell? q = some y) (h3 : a.cell? r = some z) (h4 : a.cell? s = some u) :
    Below W.heap.size W b ∧ b.cell? p = some x ∧ b.cell? q = some y ∧ b.cell? r = some z ∧ b.cell? s = some u := ⟨Bel.then h0 h, kept h h1, kept h h2, kept h h3, kept h h4⟩
/-- A struct of three cells that the call has boxed: where it lies, and that nothing elder has turned. -/
theorem box3 (w : World) (x y z : Value) (t : TypeId) : (w.alloc (.cells #[x, y, z] t)).cell? ⟨w.heap.size, 0, none⟩ = some x ∧ (w.alloc (.cells #[x, y, z] t)).cell? ⟨w.heap.size, 1, none⟩ = some y ∧ (w.alloc (.cells #[x, y, z] t)).cell? ⟨w.heap.size, 2, none⟩ = some z :=
  ⟨cell_of_row _ _ 0 _ _ _ (heap_alloc_new w _), cell_of_row _ _ 1 _ _ _ (heap_alloc_new w _), cell_of_row _ _ 2 _ _ _ (heap_alloc_new w _)⟩
theorem keep3 {W a b : World} {p q r : Addr} {x y z : Value} (h : Below a.heap.size a b) (h0 : Below W.heap.size W a) (h1 : a.cell? p = some x) (h2 : a.cell? q = some y) (h3 : a.cell? r = some z) :
    Below W.heap.size W b ∧ b.cell? p = some x ∧ b.cell? q = some y ∧ b.cell? r = some z := ⟨Bel.then h0 h, kept h h1, kept h h2, kept h h3⟩

/-- A leads to a row that begins with the cells xs, in a block below B. -/
def Cells (w : World) (B : Nat) (A : Option Addr) (xs : List Value) : Prop :=
  0 < xs.length → ∃ b off, A = some ⟨b, off, none⟩ ∧ b < B ∧ ∀ i u, xs[i]? = some u → w.cell? ⟨b, off + i, none⟩ = some u
theorem Cells.none (w : World) (B : Nat) (A : Option Addr) : Cells w B A [] := fun h => absurd h (by simp)
theorem Cells.keep {w w' : World} {B : Nat} {A : Option Addr} {xs : List Value} (h : Cells w B A xs) (hk : ∀ p : Addr, p.block < B → w'.cell? p = w.cell? p) : Cells w' B A xs := fun hn => by
  obtain ⟨b, off, e, hlt, hc⟩ := h hn
  exact ⟨b, off, e, hlt, fun i u hu => (hk ⟨b, off + i, _⟩ hlt).trans (hc i u hu)⟩
theorem Cells.below {w w' : World} {B : Nat} {A : Option Addr} {xs : List Value} (h : Cells w B A xs) (hb : Below B w w') : Cells w' B A xs := h.keep fun _ hp => hb.cell hp
theorem Cells.more {w : World} {B B' : Nat} {A : Option Addr} {xs : List Value} (h : Cells w B A xs) (hB : B ≤ B') : Cells w B' A xs := fun hn => by
  obtain ⟨b, off, e, hlt, hc⟩ := h hn
  exact ⟨b, off, e, by omega, hc⟩
theorem Cells.of_own {w : World} {base : Nat} {e : TypeId} {size c n : Nat} {A : Option Addr} {xs : List Value} (hs : w.ownsRow base e size (.slice A n c) n xs) : Cells w w.heap.size A xs := fun hn => by
  rcases hs.2 with ⟨hv, hz⟩ | ⟨g, cap, cur, hv, hb, hh, hnc, hm, hcs, ht⟩
  · rw [hs.1, hz] at hn; simp at hn
  · injection hv with h1 h2 h3
    subst h1
    have := hs.cells (g := g) rfl
    refine ⟨g, 0, rfl, (hs.lt g rfl).2, fun i u hu => ?_⟩
    have := this i u hu
    rwa [add_off] at this

theorem own_form {w : World} {base : Nat} {e : TypeId} {size n : Nat} {v : Value} {xs : List Value} (hs : w.ownsRow base e size v n xs) : ∃ A c, v = .slice A n c ∧ n ≤ c ∧ (A = none → n = 0) ∧ Cells w w.heap.size A xs := by
  rcases id hs.2 with ⟨hv, hz⟩ | ⟨g, cap, cur, hv, hb, hh, hnc, hm, hcs, ht⟩
  · subst hv hz
    exact ⟨none, 0, rfl, Nat.le_refl _, fun _ => rfl, Cells.of_own hs⟩
  · subst hv
    exact ⟨_, _, rfl, hnc, (fun h => by cases h), Cells.of_own hs⟩
theorem own_grown {W a b : World} {row : Option Nat} (h : Below W.heap.size W a) (hg : a.grownBy b row) (hr : ∀ k, row = some k → W.heap.size ≤ k) : Below W.heap.size W b := h.grown hg h.size hr

theorem own_next {B : Nat} {a : World} {v v' : Value} (hat : v'.ownBlock = v.ownBlock ∨ v'.ownBlock = some a.heap.size) (hv : ∀ k, v.ownBlock = some k → B ≤ k) (h : B ≤ a.heap.size) : ∀ k, v'.ownBlock = some k → B ≤ k := by
  intro k hk
  rcases hat with e | e
  · exact hv k (e ▸ hk)
  · rw [e] at hk
    injection hk with hk
    omega
theorem own_new (B g n c : Nat) (h : B ≤ g) : ∀ k, (Value.slice (some ⟨g, 0, none⟩) n c).ownBlock = some k → B ≤ k := by
  intro k hk
  injection hk with hk
  have : g = k := hk
  omega

/-- Two rows of the call's own, one of which has been appended to. -/
theorem own_other {w w' : World} {base' : Nat} {e' : TypeId} {size' m : Nat} {v v' u : Value} {ys : List Value} (hu : w.ownsRow base' e' size' u m ys)
    (hne : v.ownBlock = none ∨ v.ownBlock ≠ u.ownBlock) (hg : w.grownBy w' v.ownBlock) (hat : v'.ownBlock = v.ownBlock ∨ v'.ownBlock = some w.heap.size) :
    w'.ownsRow base' e' size' u m ys ∧ (v'.ownBlock = none ∨ v'.ownBlock ≠ u.ownBlock) := by
  refine ⟨hu.kept hg ?_, ?_⟩
  · by_cases h : u.ownBlock = none
    · exact .inl h
    · rcases hne with h1 | h1
      · right; rw [h1]; exact h
      · exact .inr (Ne.symm h1)
  · rcases hat with h | h
    · rw [h]; exact hne
    · right
      rw [h]
      intro h2
      have := (hu.lt _ h2.symm).2
      omega
theorem ne_sym {u v : Value} (h : u.ownBlock = none ∨ u.ownBlock ≠ v.ownBlock) : v.ownBlock = none ∨ v.ownBlock ≠ u.ownBlock := by
  rcases h with h | h
  · by_cases h' : v.ownBlock = none
    · exact .inl h'
    · exact .inr (by rw [h]; exact h')
  · exact .inr (Ne.symm h)

/-- append of a slice that reads as cells, onto a row of the call's own -/
theorem run_app {P : Program} (w : World) (base : Nat) (t ty e : TypeId) (i : TypeInfo) (z : Value) (size bytes : Nat) (ht : P.underlying t = some (.slice e)) (hi : P.info? e = some i) (hz : i.zero = some z)
    (hsize : i.size = size) (hby : i.bytes = bytes) (hzs : z.cells.size = size) (hsz : 0 < size)
    (v : Value) (n : Nat) (xs : List Value) (hown : w.ownsRow base e size v n xs)
    (B : Nat) (A : Option Addr) (m c : Nat) (news : List Value) (hl : news.length = m * size) (hr : Cells w B A news) (h1 : ∀ u ∈ news, u.oneCell' = true)
    (h63 : n + m ≤ maxLen) (hbytes : (n + m) * bytes ≤ 140737488355328) (hbase : base ≤ w.heap.size) (hnil : A = none → m = 0) :
    ∃ v' w', (Builtin.append_ #[t, t] ty #[v, .slice A m c]).run P w = .ok v' w' ∧ w'.ownsRow base e size v' (n + m) (xs ++ news) ∧ w.grownBy w' v.ownBlock ∧ (v'.ownBlock = v.ownBlock ∨ v'.ownBlock = some w.heap.size) := by
  cases A with
  | none =>
    have hm := hnil rfl
    subst hm
    have hn : news = [] := List.eq_nil_of_length_eq_zero (by simpa using hl)
    subst hn
    refine ⟨v, w, ?_, by simpa using hown, World.grownBy.refl w _, .inl rfl⟩
    rcases hown.2 with ⟨rfl, rfl⟩ | ⟨g, cap, cur, rfl, _, _, hnc, _⟩
    · simp [Builtin.append_, run_underlying ht, sizeOf, typeInfo, hi, Builtin.lenOf, Builtin.firstCells]
    · simp [Builtin.append_, run_underlying ht, sizeOf, typeInfo, hi, Builtin.lenOf, Builtin.firstCells, hnc, storeCells]
  | some ad =>
    have hcells : ∀ j u, news[j]? = some u → w.cell? (ad.add j) = some u := by
      intro j u hu
      have hlt := (List.getElem?_eq_some_iff.1 hu).1
      obtain ⟨b, off, e, _, hc⟩ := hr (by omega)
      injection e with e
      subst e
      rw [add_off]
      exact hc j u hu
    obtain ⟨v', w', hrun, h2, h3, _, h5⟩ := run_append_own_at (P := P) w base t ty e i z size bytes ht hi hz hsize hby hzs hsz v n xs hown ad m c news hl hcells h1 h63 hbytes hbase
    exact ⟨v', w', hrun, h2, h3, h5⟩

theorem wpList_app {P : Program} {w : World} {ops : Array Oper} {rest : List Oper} {o : Oper} {a : Act} {Q : Exit → Act → World → Prop} (hgd : o.guard = none) (s x : Operand) (t : TypeId)
    (ho : o.op = .call { callee := .builtin .append, args := #[s, x], argTypes := #[t, t] })
    (base : Nat) (e : TypeId) (i : TypeInfo) (z : Value) (size bytes : Nat) (ht : P.underlying t = some (.slice e)) (hi : P.info? e = some i) (hz : i.zero = some z)
    (hsize : i.size = size) (hby : i.bytes = bytes) (hzs : z.cells.size = size) (hsz : 0 < size)
    (v : Value) (n : Nat) (xs : List Value) (hs : a.eval s = v) (hown : w.ownsRow base e size v n xs)
    (B : Nat) (A : Option Addr) (m c : Nat) (news : List Value) (hx : a.eval x = .slice A m c) (hl : news.length = m * size) (hr : Cells w B A news) (h1 : ∀ u ∈ news, u.oneCell' = true)
    (h63 : n + m ≤ maxLen) (hbytes : (n + m) * bytes ≤ 140737488355328) (hbase : base ≤ w.heap.size) (hnil : A = none → m = 0)
    (h : ∀ v' w', w'.ownsRow base e size v' (n + m) (xs ++ news) → w.grownBy w' v.ownBlock → (v'.ownBlock = v.ownBlock ∨ v'.ownBlock = some w.heap.size) → wpList P ops Q rest (a.put o.dst v') w') : wpList P ops Q (o :: rest) a w := by
  refine wpList_plain hgd fun K hK => ?_
  obtain ⟨v', w', hrun, h2, h3, h4⟩ := run_app (P := P) w base t o.type e i z size bytes ht hi hz hsize hby hzs hsz v n xs hown B A m c news hl hr h1 h63 hbytes hbase hnil
  unfold Oper.wp execOp
  simp only [ho, resolve, invoke, builtin, Sem.run_bind, Sem.run_pure, Result.andThen_ok, List.map_toArray, List.map_cons, List.map_nil, hs, hx, hrun]
  exact hK _ _ (h v' w' h2 h3 h4)

/-- The slice (A, n) reads as the ints zs. -/
def Ints (w : World) (B : Nat) (A : Option Addr) (n : Nat) (zs : List Int) : Prop := zs.length = n ∧ Cells w B A (zs.map (.int .i64))
theorem Ints.below {w w' : World} {B : Nat} {A : Option Addr} {n : Nat} {zs : List Int} (h : Ints w B A n zs) (hb : Below B w w') : Ints w' B A n zs := ⟨h.1, h.2.below hb⟩
theorem Ints.at {w : World} {B : Nat} {A : Option Addr} {n : Nat} {zs : List Int} (h : Ints w B A n zs) (hn : 0 < n) : ∃ b off, A = some ⟨b, off, none⟩ ∧ b < B ∧ ∀ k, k < n → w.cell? ⟨b, off + k, none⟩ = some (.int .i64 (zs.getD k 0)) := by
  obtain ⟨b, off, e, hlt, hc⟩ := h.2 (by simpa [h.1] using hn)
  refine ⟨b, off, e, hlt, fun k hk => hc k _ ?_⟩
  have hk' : k < zs.length := by rw [h.1]; exact hk
  simp [List.getD, hk']

theorem Ints.two {w : World} {B : Nat} {A : Option Addr} {a b : Int} {r : List Int} {n : Nat} (h : Ints w B A n (a :: b :: r)) : ∃ g off, A = some ⟨g, off, none⟩ ∧ g < B ∧ w.cell? ⟨g, off, none⟩ = some (.int .i64 a) ∧ w.cell? ⟨g, off + 1, none⟩ = some (.int .i64 b) := by
  obtain ⟨g, off, rfl, hlt, hc⟩ := h.at (by have := h.1; simp at this; omega)
  have hn := h.1
  simp at hn
  exact ⟨g, off, rfl, hlt, hc 0 (by omega), hc 1 (by omega)⟩
theorem Ints.get {w : World} {B : Nat} {A : Option Addr} {n : Nat} {zs : List Int} (h : Ints w B A n zs) {k : Nat} (hk : k < n) :
    ∃ b off z, A = some ⟨b, off, none⟩ ∧ b < B ∧ w.cell? ⟨b, off + k, none⟩ = some (.int .i64 z) ∧ Hid (zs.take (k + 1) = zs.take k ++ [z]) ∧ Hid (zs.getD k 0 = z) := by
  obtain ⟨b, off, e, hlt, hc⟩ := h.at (by omega)
  have hk' : k < zs.length := by rw [h.1]; exact hk
  exact ⟨b, off, _, e, hlt, hc k hk, by show zs.take (k + 1) = _; rw [List.take_succ_eq_append_getElem hk']; simp [List.getD, hk'], rfl⟩

theorem cells_lit (w : World) (cs : Array Value) (t : TypeId) : Cells (w.alloc (.cells cs t)) (w.heap.size + 1) (some ⟨w.heap.size, 0, none⟩) cs.toList := fun _ =>
  ⟨_, 0, rfl, by omega, fun i u hu => by
    rw [Nat.zero_add, cell_of_row _ _ i _ _ _ (heap_alloc_new w _)]
    simpa using hu⟩
theorem ints_lit (w : World) (zs : List Int) (t : TypeId) {cs : Array Value} (h : cs.toList = zs.map (.int .i64)) {n : Nat} (hn : zs.length = n) : Ints (w.alloc (.cells cs t)) (w.heap.size + 1) (some ⟨w.heap.size, 0, none⟩) n zs := ⟨hn, h ▸ cells_lit w cs t⟩
theorem Ints.more {w : World} {B B' : Nat} {A : Option Addr} {n : Nat} {zs : List Int} (h : Ints w B A n zs) (hB : B ≤ B') : Ints w B' A n zs := ⟨h.1, h.2.more hB⟩
theorem Ints.kept {w w' : World} {A : Option Addr} {n : Nat} {zs : List Int} (h : Ints w w.heap.size A n zs) (hb : Below w.heap.size w w') : Ints w' w'.heap.size A n zs := (h.below hb).more hb.size
theorem Cells.kept {w w' : World} {A : Option Addr} {xs : List Value} (h : Cells w w.heap.size A xs) (hb : Below w.heap.size w w') : Cells w' w'.heap.size A xs := (h.below hb).more hb.size

/-- The length of a slice's value: for a loop's measure. -/
def lenV : Value → Nat | .slice _ n _ => n | _ => 0
/-- A slice cut at its front. -/
theorem Ints.cut {w : World} {B : Nat} {A : Option Addr} {n c k : Nat} {zs : List Int} (h : Ints w B A n zs) (hk : k ≤ n) (hc : n ≤ c) : Ints w B (if c = k then A else A.map (·.add k)) (n - k) (zs.drop k) := by
  refine ⟨by simp [h.1], fun hn => ?_⟩
  have hn' : k < n := by simp [h.1] at hn; omega
  obtain ⟨b, off, rfl, hlt, hcell⟩ := h.2 (by simp [h.1]; omega)
  rw [if_neg (by omega)]
  refine ⟨b, off + k, by simp [add_off], hlt, fun i u hu => ?_⟩
  rw [Nat.add_assoc]
  refine hcell (k + i) u ?_
  rw [← hu]
  simp
/-- Where A leads is not below block B. -/
def FreshA (B : Nat) (A : Option Addr) : Prop := ∀ ad, A = some ad → B ≤ ad.block
theorem FreshA.mono {B B' : Nat} {A : Option Addr} (h : FreshA B A) (hB : B' ≤ B) : FreshA B' A := fun ad e => Nat.le_trans hB (h ad e)
theorem FreshA.new {B b o : Nat} (h : B ≤ b) : FreshA B (some ⟨b, o, none⟩) := fun ad e => by injection e with e; subst e; exact h
theorem Cells.set {w : World} {B : Nat} {A : Option Addr} {xs : List Value} (h : Cells w B A xs) {p : Addr} (hne : FreshA (p.block + 1) A) (u : Value) : Cells (w.setCell p u) B A xs := fun hn => by
  obtain ⟨b, off, e, hlt, hc⟩ := h hn
  have hb : p.block + 1 ≤ b := hne _ e
  refine ⟨b, off, e, hlt, fun i v hv => ?_⟩
  rw [World.cell?_of_block (Below.heap_setCell w p u b (by omega))]
  exact hc i v hv
theorem Ints.set {w : World} {B : Nat} {A : Option Addr} {n : Nat} {zs : List Int} (h : Ints w B A n zs) {p : Addr} (hne : FreshA (p.block + 1) A) (u : Value) : Ints (w.setCell p u) B A n zs := ⟨h.1, h.2.set hne u⟩
theorem new_unfrozen (w : World) (cs : Array Value) (t : TypeId) (i : Nat) : (w.alloc (.cells cs t)).frozen? ⟨w.heap.size, i, none⟩ = false := by
  have h := heap_alloc_new w (.cells cs t)
  unfold World.frozen?
  simp only [h]
  simp
theorem kept_frozen {a b : World} (h : Below a.heap.size a b) {p : Addr} (hp : p.block < a.heap.size) {f : Bool} (hf : a.frozen? p = f) : b.frozen? p = f := (h.frozen hp).trans hf
/-- The call hands back a slice in memory that reads as the ints zs, and nothing elder has turned. -/
def GivesInts (w : World) (n : Nat) (zs : List Int) (e : Ending) (w' : World) : Prop := ∃ A c, e = .returned (.slice A n c) ∧ Ints w' w'.heap.size A n zs ∧ Below w.heap.size w w' ∧ FreshA w.heap.size A
/-- An array of four ints by value. -/
theorem open_arr4 {H : Type} {enc : TypeId × Value → H} {P : Program} {w : World} {base : Nat} {t e : TypeId} {v : Value} {d : DataW H} {p : List MemPlace}
    (ht : P.underlying t = some (.array 4 e)) (he : P.underlying e = some (.int .i64)) (hc : P.cellsOf e = 1) (hC : P.cellsOf t = 4)
    (hok : Value.okWide P w .any base t v) (h : DataW.Trod enc P w 0 (fun _ => true) true t v d p) :
    ∃ a b c f : Int, v = .agg #[.int .i64 a, .int .i64 b, .int .i64 c, .int .i64 f] ∧ (Lit.int .i64 a).wf = true ∧ (Lit.int .i64 b).wf = true ∧ (Lit.int .i64 c).wf = true ∧ (Lit.int .i64 f).wf = true := by
  simp only [Value.okWide, ht] at hok
  obtain ⟨cs, rfl, hsz, _⟩ := hok
  obtain ⟨l⟩ := cs
  match l, hsz.trans hC with
  | [c0, c1, c2, c3], _ =>
    obtain ⟨fuel, hf⟩ := h
    obtain ⟨xs, m, _, _, _, hlen, hg⟩ := DataW.trod_array ht hf
    match xs, hlen with
    | [y0, y1, y2, y3], _ =>
      obtain ⟨a, e0, _, wa⟩ := DataW.trod_int he (by simpa [Value.cells, hc] using hg 0 (by omega))
      obtain ⟨b, e1, _, wb⟩ := DataW.trod_int he (by simpa [Value.cells, hc] using hg 1 (by omega))
      obtain ⟨c, e2, _, wc⟩ := DataW.trod_int he (by simpa [Value.cells, hc] using hg 2 (by omega))
      obtain ⟨f, e3, _, wf⟩ := DataW.trod_int he (by simpa [Value.cells, hc] using hg 3 (by omega))
      simp at e0 e1 e2 e3
      subst e0 e1 e2 e3
      exact ⟨a, b, c, f, rfl, wa, wb, wc, wf⟩

/-- A slice of ints that came in. -/
theorem open_Ints {H : Type} {enc : TypeId × Value → H} {P : Program} {w : World} {base : Nat} {t e : TypeId} {v : Value} {d : DataW H} {p : List MemPlace}
    (ht : P.underlying t = some (.slice e)) (he : P.underlying e = some (.int .i64)) (hc : P.cellsOf e = 1)
    (hok : Value.okWide P w .any base t v) (h : DataW.Trod enc P w 0 (fun _ => true) true t v d p) :
    ∃ A n c zs, v = .slice A n c ∧ n ≤ c ∧ c ≤ maxLen ∧ (A = none → n = 0) ∧ Ints w w.heap.size A n zs ∧ (∀ z ∈ zs, (Lit.int .i64 z).wf = true) ∧ ((d = .nil ∧ n = 0) ∨ ∃ sp, d = .slice (zs.map fun z => .lit (.int .i64 z)) sp) := by
  obtain ⟨a0, len0, cap0, rfl⟩ := okWide_slice ht hok
  obtain ⟨fuel, hf⟩ := h
  rcases open_ints ht he hc hf with ⟨hcs, hx⟩ | ⟨x, l, c, zs, hcs, _, hl, hm, hz, hx, hcell, hwz⟩
  · simp [Value.cells] at hcs
    obtain ⟨rfl, rfl, rfl⟩ := hcs
    simp only [Prod.mk.injEq] at hx
    exact ⟨none, 0, 0, [], rfl, Nat.le_refl _, Nat.zero_le _, fun _ => rfl, ⟨rfl, Cells.none _ _ _⟩, by simp, .inl ⟨hx.1, rfl⟩⟩
  · simp [Value.cells] at hcs
    obtain ⟨rfl, rfl, rfl⟩ := hcs
    simp only [Prod.mk.injEq] at hx
    have hzc : zs.length = cap0 := by simpa using hz
    refine ⟨_, _, _, zs.take len0, rfl, hl, hm, by simp, ⟨by simp; omega, fun hn => ?_⟩, fun z hz' => hwz z (List.mem_of_mem_take hz'), .inr ⟨_, hx.1⟩⟩
    have hn' : 0 < zs.length := by simp at hn; omega
    have hc0 := hcell 0 hn'
    obtain ⟨b, off, spot⟩ := x
    have hspot : spot = none := by simpa [Addr.add] using World.cell?_spot hc0
    subst hspot
    refine ⟨b, off, rfl, World.block_lt_of_cell? (a := ⟨b, off, none⟩) w (by simpa [Addr.add] using hc0), fun i u hu => ?_⟩
    have hi : i < (zs.take len0).length := by simpa using (List.getElem?_eq_some_iff.1 hu).1
    have hi' : i < zs.length := by simp at hi; omega
    have := hcell i hi'
    rw [add_off] at this
    rw [this, ← hu]
    simp at hi
    simp [List.getD, hi, hi']
end Go.Proofs.YtfdedkcidemimaaDoor
namespace Go.Proofs.YtfdedkcidemimaaDoor
set_option linter.unusedVariables false
open Go.ChangeShapes Go.WideShapes Go.ChangeAt Go.RowKit

theorem Below.drewN' {B : Nat} {a w : World} (h : Below B a w) (n : Nat) : Below B a (w.drewN n) := ⟨h.os, h.tape, h.output, h.size, h.block⟩
theorem own_some {w : World} {base : Nat} {e : TypeId} {size n : Nat} {v : Value} {xs : List Value} (hs : w.ownsRow base e size v n xs) (hn : 0 < n) : ∃ g cap, v = .slice (some ⟨g, 0, none⟩) n cap ∧ n ≤ cap ∧ base ≤ g := by
  rcases hs.2 with ⟨hv, hz⟩ | ⟨g, cap, cur, hv, hb, hh, hnc, hm, hcs, ht⟩
  · omega
  · exact ⟨g, cap, hv, hnc, hb⟩
theorem own_ints {w : World} {base : Nat} {e : TypeId} {n c : Nat} {A : Option Addr} {zs : List Int} (hs : w.ownsRow base e 1 (.slice A n c) n (zs.map (.int .i64))) : Ints w w.heap.size A n zs :=
  ⟨by have := hs.1; simpa using this, Cells.of_own hs⟩
theorem own_cell {w : World} {base : Nat} {e : TypeId} {n c g : Nat} {xs : List Value} (hs : w.ownsRow base e 1 (.slice (some ⟨g, 0, none⟩) n c) n xs) {k : Nat} {u : Value} (hk : xs[k]? = some u) : w.cell? ⟨g, k, none⟩ = some u := by
  have := hs.cells (g := g) rfl k u hk
  rwa [add_off, Nat.zero_add] at this
/-- What is owned stays owned behind a call that leaves all elder blocks alone. -/
theorem own_below {a b : World} {base : Nat} {e : TypeId} {size n : Nat} {v : Value} {xs : List Value} (h : a.ownsRow base e size v n xs) (hb : Below a.heap.size a b) : b.ownsRow base e size v n xs := by
  refine ⟨h.1, ?_⟩
  rcases h.2 with hn | ⟨g, cap, cur, rfl, h1, hg, rest⟩
  · exact .inl hn
  · refine .inr ⟨g, cap, cur, rfl, h1, ?_, rest⟩
    rw [hb.block g (Array.getElem?_eq_some_iff.1 hg).1]
    exact hg
/-- The second of two new blocks. -/
theorem cells_lit2 (w : World) (o : Obj) (cs : Array Value) (t : TypeId) : Cells ((w.alloc o).alloc (.cells cs t)) (w.heap.size + 2) (some ⟨w.heap.size + 1, 0, none⟩) cs.toList := by
  have h := cells_lit (w.alloc o) cs t
  rw [World.size_alloc] at h
  exact h
/-- All elder cells and marks read as before: the walk uses the two rules by itself. -/
theorem bcell {W w1 : World} (hb : Below W.heap.size W w1) : (∀ b o, b < W.heap.size → w1.cell? ⟨b, o, none⟩ = W.cell? ⟨b, o, none⟩) ∧ (∀ b o, b < W.heap.size → w1.frozen? ⟨b, o, none⟩ = W.frozen? ⟨b, o, none⟩) :=
  ⟨fun b o h => hb.cell (p := ⟨b, o, none⟩) h, fun b o h => hb.frozen (p := ⟨b, o, none⟩) h⟩
end Go.Proofs.YtfdedkcidemimaaDoor
namespace Go.Proofs.YtfdedkcidemimaaDoor
set_option linter.unusedVariables false
open Go.ChangeShapes Go.WideShapes Go.ChangeAt Go.RowKit Go.Deep

/-- The slice reads as records of k cells each. -/
def Recs (w : World) (B : Nat) (A : Option Addr) (k : Nat) (xss : List (List Value)) : Prop := (∀ xs ∈ xss, xs.length = k) ∧ Cells w B A xss.flatten
theorem flat_get {α : Type} : ∀ (xss : List (List α)) (k i j : Nat) (xs : List α) (u : α), (∀ ys ∈ xss, ys.length = k) → xss[i]? = some xs → xs[j]? = some u → xss.flatten[i * k + j]? = some u
  | [], _, _, _, _, _, _, h, _ => by simp at h
  | ys :: l, k, 0, j, xs, u, hk, h, hj => by
    simp only [List.getElem?_cons_zero, Option.some.injEq] at h
    subst h
    have hl := (List.getElem?_eq_some_iff.1 hj).1
    rw [List.flatten_cons, Nat.zero_mul, Nat.zero_add, List.getElem?_append_left hl, hj]
  | ys :: l, k, i + 1, j, xs, u, hk, h, hj => by
    have hy := hk ys List.mem_cons_self
    rw [List.getElem?_cons_succ] at h
    rw [List.flatten_cons, List.getElem?_append_right (by rw [hy, Nat.succ_mul]; omega), hy, show (i + 1) * k + j - k = i * k + j by rw [Nat.succ_mul]; omega]
    exact flat_get l k i j xs u (fun zs hz => hk zs (List.mem_cons_of_mem _ hz)) h hj
theorem flat_len {α : Type} : ∀ (xss : List (List α)) (k : Nat), (∀ ys ∈ xss, ys.length = k) → xss.flatten.length = xss.length * k
  | [], _, _ => by simp
  | ys :: l, k, hk => by
    rw [List.flatten_cons, List.length_append, hk ys List.mem_cons_self, flat_len l k (fun zs hz => hk zs (List.mem_cons_of_mem _ hz)), List.length_cons, Nat.succ_mul]
    omega
theorem Recs.at {w : World} {B : Nat} {A : Option Addr} {k : Nat} {xss : List (List Value)} (h : Recs w B A k xss) (hk : 0 < k) (hn : 0 < xss.length) :
    ∃ b off, A = some ⟨b, off, none⟩ ∧ b < B ∧ ∀ i xs j u, xss[i]? = some xs → xs[j]? = some u → w.cell? ⟨b, off + (i * k + j), none⟩ = some u := by
  obtain ⟨b, off, e, hlt, hc⟩ := h.2 (by rw [flat_len _ _ h.1]; exact Nat.mul_pos hn hk)
  exact ⟨b, off, e, hlt, fun i xs j u h1 h2 => hc _ _ (flat_get _ _ _ _ _ _ h.1 h1 h2)⟩
theorem Recs.below {w w' : World} {B : Nat} {A : Option Addr} {k : Nat} {xss : List (List Value)} (h : Recs w B A k xss) (hb : Below B w w') : Recs w' B A k xss := ⟨h.1, h.2.below hb⟩
theorem Recs.more {w : World} {B B' : Nat} {A : Option Addr} {k : Nat} {xss : List (List Value)} (h : Recs w B A k xss) (hB : B ≤ B') : Recs w B' A k xss := ⟨h.1, h.2.more hB⟩
theorem Recs.kept {w w' : World} {A : Option Addr} {k : Nat} {xss : List (List Value)} (h : Recs w w.heap.size A k xss) (hb : Below w.heap.size w w') : Recs w' w'.heap.size A k xss := (h.below hb).more hb.size
theorem list_of {α : Type} {R : Nat → α → Prop} : ∀ n : Nat, (∀ i, i < n → ∃ a, R i a) → ∃ l : List α, l.length = n ∧ ∀ i a, l[i]? = some a → R i a
  | 0, _ => ⟨[], rfl, by simp⟩
  | n + 1, h => by
    obtain ⟨l, hl, hr⟩ := list_of n (fun i hi => h i (by omega))
    obtain ⟨a, ha⟩ := h n (by omega)
    refine ⟨l ++ [a], by simp [hl], fun i b hb => ?_⟩
    by_cases hi : i < n
    · rw [List.getElem?_append_left (by omega)] at hb
      exact hr i b hb
    · rw [List.getElem?_append_right (by omega)] at hb
      have : i = n := by
        have := (List.getElem?_eq_some_iff.1 hb).1
        simp at this
        omega
      subst this
      simp [hl] at hb
      rw [← hb]
      exact ha
section
variable {H : Type} {enc : TypeId × Value → H} {P : Program} {w : World} {base : Nat} {spare : Nat → Bool} {held : Bool}
/-- A slice that came in, element by element: each element's cells. -/
theorem open_elems {α : Type} (f : α → List Value) {Good : α → Prop} {t e : TypeId} {k fuel : Nat} {cs : List Value} {x : DataW H × List MemPlace} (ht : P.underlying t = some (.slice e)) (hC : P.cellsOf e = k) (hk : 0 < k)
    (bulk : DataW H → Nat) (hb1 : ∀ es sp d, d ∈ es → bulk d ≤ bulk (.slice es sp)) (hb2 : ∀ es sp, es.length ≤ bulk (.slice es sp)) {M : Nat} (hM : bulk x.1 ≤ M)
    (hf : ∀ n vs y, vs.length = k → DataW.trod enc P w base spare held n e vs = some y → bulk y.1 ≤ M → ∃ a, vs = f a ∧ Good a)
    (h : DataW.trod enc P w base spare held fuel t cs = some x) :
    ∃ (A : Option Addr) (n c : Nat) (l : List α), cs = [.slice A n c] ∧ n ≤ c ∧ c ≤ maxLen ∧ (A = none → n = 0) ∧ l.length = n ∧ n ≤ M ∧ Recs w w.heap.size A k (l.map f) ∧ ∀ a ∈ l, Good a := by
  rcases open_slice ht h with ⟨rfl, _⟩ | ⟨a, len, cap, m, n, D, Pl, rfl, hb, hl, hm, hmm, hx, hi⟩
  · exact ⟨none, 0, 0, [], rfl, Nat.le_refl _, Nat.zero_le _, fun _ => rfl, rfl, Nat.zero_le _, ⟨by simp, Cells.none _ _ _⟩, by simp⟩
  · have hlm : len ≤ m := by rw [hmm]; split <;> omega
    have key : ∀ i, i < len → ∃ b : α, (∀ j u, (f b)[j]? = some u → w.cell? (a.add (i * k + j)) = some u) ∧ (f b).length = k ∧ Good b := by
      intro i hlt
      obtain ⟨vs, hc, ht'⟩ := hi i (by omega)
      rw [hC] at hc
      obtain ⟨_, hcl, hat⟩ := World.cells?_some hc
      obtain ⟨b, rfl, hg⟩ := hf n vs _ hcl ht' (Nat.le_trans (hb1 _ _ (D i) (List.mem_map.2 ⟨i, List.mem_range.2 hlt, rfl⟩)) (by rw [hx] at hM; exact hM))
      refine ⟨b, fun j u hu => ?_, hcl, hg⟩
      have hj : j < k := by have := (List.getElem?_eq_some_iff.1 hu).1; omega
      rw [← Go.Deep.add_add, hat j hj, hu]
    obtain ⟨l, hll, hr⟩ := list_of len key
    have hlM : len ≤ M := by
      rw [hx] at hM
      have := hb2 ((List.range len).map D) ((List.range (m - len)).map fun j => D (len + j))
      rw [List.length_map, List.length_range] at this
      exact Nat.le_trans this hM
    refine ⟨some a, len, cap, l, rfl, hl, hm, by simp, hll, hlM, ⟨?_, ?_⟩, ?_⟩
    · intro xs hxs
      obtain ⟨b, hb', rfl⟩ := List.mem_map.1 hxs
      obtain ⟨i, hi'⟩ := List.getElem?_of_mem hb'
      exact (hr i b hi').2.1
    · intro hn
      have hn' : 0 < len := by
        rcases l with _ | ⟨b, l⟩
        · simp at hn
        · simp at hll; omega
      obtain ⟨b0, h0⟩ : ∃ b0, l[0]? = some b0 := ⟨l[0]'(by omega), List.getElem?_eq_getElem (by omega)⟩
      have hr0 := hr 0 b0 h0
      obtain ⟨bk, off, spot⟩ := a
      have hcell0 := hr0.1 0 ((f b0)[0]'(by omega)) (List.getElem?_eq_getElem (by omega))
      have hspot : spot = none := by simpa [Addr.add] using World.cell?_spot hcell0
      subst hspot
      have hlt : bk < w.heap.size := World.block_lt_of_cell? (a := ⟨bk, off + (0 * k + 0), none⟩) w (by rw [add_off] at hcell0; exact hcell0)
      refine ⟨bk, off, rfl, hlt, fun i u hu => ?_⟩
      have hlen : ∀ ys ∈ l.map f, ys.length = k := by
        intro xs hxs
        obtain ⟨b, hb', rfl⟩ := List.mem_map.1 hxs
        obtain ⟨i, hi'⟩ := List.getElem?_of_mem hb'
        exact (hr i b hi').2.1
      have hil : i < len * k := by
        have := (List.getElem?_eq_some_iff.1 hu).1
        rw [flat_len _ _ hlen, List.length_map, hll] at this
        exact this
      have hq : i / k < len := (Nat.div_lt_iff_lt_mul hk).2 hil
      have hrm : i % k < k := Nat.mod_lt _ hk
      have hdm : i = i / k * k + i % k := by rw [Nat.mul_comm]; exact (Nat.div_add_mod i k).symm
      obtain ⟨bq, hbq⟩ : ∃ bq, l[i / k]? = some bq := ⟨l[i / k]'(by omega), List.getElem?_eq_getElem (by omega)⟩
      have hrq := hr _ bq hbq
      have hv : (f bq)[i % k]? = some ((f bq)[i % k]'(by omega)) := List.getElem?_eq_getElem (by omega)
      have hcell := hrq.1 _ _ hv
      have hu2 := flat_get (l.map f) k (i / k) (i % k) (f bq) _ hlen (by rw [List.getElem?_map, hbq]; rfl) hv
      rw [← hdm] at hu2 hcell
      rw [hu] at hu2
      rw [add_off] at hcell
      rw [hcell, ← hu2]
    · intro b hb'
      obtain ⟨i, hi'⟩ := List.getElem?_of_mem hb'
      exact (hr i b hi').2.2
/-- The cells of a struct of 2 fields of one cell each. -/
theorem open_fields2 {t : TypeId} {f0 f1 : Field} {fuel : Nat} {vs : List Value} {y : DataW H × List MemPlace} (hs : P.underlying t = some (.struct #[f0, f1])) (hone : oneCellFields P #[f0, f1] = true) (hl : vs.length = 2) (h : DataW.trod enc P w base spare held fuel t vs = some y) :
    ∃ (a0 a1 : Value) (y0 y1 : DataW H × List MemPlace) (m : Nat), vs = [a0, a1] ∧ y.1 = .agg [y0.1, y1.1] ∧ DataW.trod enc P w base spare held m f0.type [a0] = some y0 ∧ DataW.trod enc P w base spare held m f1.type [a1] = some y1 := by
  obtain ⟨ys, m, _, hx, _, hlen, hg⟩ := DataW.trod_struct hs h
  obtain ⟨o0, k0⟩ := hone_of hone 0 f0 rfl
  obtain ⟨o1, k1⟩ := hone_of hone 1 f1 rfl
  match vs, hl, ys, hlen with
  | [a0, a1], _, [y0, y1], _ =>
    exact ⟨a0, a1, y0, y1, m, rfl, by rw [hx]; rfl, by simpa [o0, k0] using hg 0 f0 rfl, by simpa [o1, k1] using hg 1 f1 rfl⟩
/-- The cells of a struct of 3 fields of one cell each. -/
theorem open_fields3 {t : TypeId} {f0 f1 f2 : Field} {fuel : Nat} {vs : List Value} {y : DataW H × List MemPlace} (hs : P.underlying t = some (.struct #[f0, f1, f2])) (hone : oneCellFields P #[f0, f1, f2] = true) (hl : vs.length = 3) (h : DataW.trod enc P w base spare held fuel t vs = some y) :
    ∃ (a0 a1 a2 : Value) (y0 y1 y2 : DataW H × List MemPlace) (m : Nat), vs = [a0, a1, a2] ∧ y.1 = .agg [y0.1, y1.1, y2.1] ∧ DataW.trod enc P w base spare held m f0.type [a0] = some y0 ∧ DataW.trod enc P w base spare held m f1.type [a1] = some y1 ∧ DataW.trod enc P w base spare held m f2.type [a2] = some y2 := by
  obtain ⟨ys, m, _, hx, _, hlen, hg⟩ := DataW.trod_struct hs h
  obtain ⟨o0, k0⟩ := hone_of hone 0 f0 rfl
  obtain ⟨o1, k1⟩ := hone_of hone 1 f1 rfl
  obtain ⟨o2, k2⟩ := hone_of hone 2 f2 rfl
  match vs, hl, ys, hlen with
  | [a0, a1, a2], _, [y0, y1, y2], _ =>
    exact ⟨a0, a1, a2, y0, y1, y2, m, rfl, by rw [hx]; rfl, by simpa [o0, k0] using hg 0 f0 rfl, by simpa [o1, k1] using hg 1 f1 rfl, by simpa [o2, k2] using hg 2 f2 rfl⟩
/-- The cells of a struct of 4 fields of one cell each. -/
theorem open_fields4 {t : TypeId} {f0 f1 f2 f3 : Field} {fuel : Nat} {vs : List Value} {y : DataW H × List MemPlace} (hs : P.underlying t = some (.struct #[f0, f1, f2, f3])) (hone : oneCellFields P #[f0, f1, f2, f3] = true) (hl : vs.length = 4) (h : DataW.trod enc P w base spare held fuel t vs = some y) :
    ∃ (a0 a1 a2 a3 : Value) (y0 y1 y2 y3 : DataW H × List MemPlace) (m : Nat), vs = [a0, a1, a2, a3] ∧ y.1 = .agg [y0.1, y1.1, y2.1, y3.1] ∧ DataW.trod enc P w base spare held m f0.type [a0] = some y0 ∧ DataW.trod enc P w base spare held m f1.type [a1] = some y1 ∧ DataW.trod enc P w base spare held m f2.type [a2] = some y2 ∧ DataW.trod enc P w base spare held m f3.type [a3] = some y3 := by
  obtain ⟨ys, m, _, hx, _, hlen, hg⟩ := DataW.trod_struct hs h
  obtain ⟨o0, k0⟩ := hone_of hone 0 f0 rfl
  obtain ⟨o1, k1⟩ := hone_of hone 1 f1 rfl
  obtain ⟨o2, k2⟩ := hone_of hone 2 f2 rfl
  obtain ⟨o3, k3⟩ := hone_of hone 3 f3 rfl
  match vs, hl, ys, hlen with
  | [a0, a1, a2, a3], _, [y0, y1, y2, y3], _ =>
    exact ⟨a0, a1, a2, a3, y0, y1, y2, y3, m, rfl, by rw [hx]; rfl, by simpa [o0, k0] using hg 0 f0 rfl, by simpa [o1, k1] using hg 1 f1 rfl, by simpa [o2, k2] using hg 2 f2 rfl, by simpa [o3, k3] using hg 3 f3 rfl⟩
end
end Go.Proofs.YtfdedkcidemimaaDoor
namespace Go.Proofs.YtfdedkcidemimaaDoor
set_option linter.unusedVariables false

theorem bulk_pos {H : Type} (d : DataW H) : 1 ≤ Rows.uptoBulk d := by
  cases d with
  | lit l => cases l <;> simp [Rows.uptoBulk]
  | _ => simp [Rows.uptoBulk]
theorem bulk_len {H : Type} : ∀ l : List (DataW H), l.length ≤ Rows.uptoBulkAll l
  | [] => by simp [Rows.uptoBulkAll]
  | d :: l => by have := bulk_pos d; have := bulk_len l; simp only [Rows.uptoBulkAll, List.length_cons]; omega
theorem bulk_mem {H : Type} {d : DataW H} : ∀ {l : List (DataW H)}, d ∈ l → Rows.uptoBulk d ≤ Rows.uptoBulkAll l
  | [], h => by cases h
  | x :: l, h => by
    simp only [Rows.uptoBulkAll]
    rcases List.mem_cons.1 h with rfl | h
    · omega
    · have := bulk_mem h; omega
theorem bulk_slice {H : Type} (es sp : List (DataW H)) : es.length + 1 ≤ Rows.uptoBulk (.slice es sp) := by have := bulk_len es; simp only [Rows.uptoBulk]; omega
theorem bulk_elems {H : Type} (es sp : List (DataW H)) : Rows.uptoBulkAll es + 1 ≤ Rows.uptoBulk (.slice es sp) := by simp only [Rows.uptoBulk]; omega
theorem bulk_parts {H : Type} (es : List (DataW H)) : Rows.uptoBulkAll es + 1 ≤ Rows.uptoBulk (.agg es) := by simp only [Rows.uptoBulk]; omega
theorem bulk_str {H : Type} (s : ByteArray) : s.size ≤ Rows.uptoBulk (DataW.lit (H := H) (.string s.data.toList)) := by
  simp only [Rows.uptoBulk]
  have : s.data.toList.length = s.size := by rw [Array.length_toList]; rfl
  omega
theorem bulk_ints {H : Type} {d : DataW H} {n : Nat} {zs : List Int} {f : Int → DataW H} (hz : zs.length = n) (h : (d = .nil ∧ n = 0) ∨ ∃ sp, d = .slice (zs.map f) sp) : n ≤ Rows.uptoBulk d := by
  rcases h with ⟨rfl, rfl⟩ | ⟨sp, rfl⟩
  · simp
  · have := bulk_slice (zs.map f) sp; simp at this; omega
theorem bulk_all {H : Type} {l : List (DataW H)} (hk : Rows.uptoSmall H l = true) : Rows.uptoBulkAll l ≤ 1048576 := of_decide_eq_true hk
theorem bulk_el {H : Type} (es sp : List (DataW H)) (d : DataW H) (h : d ∈ es) : Rows.uptoBulk d ≤ Rows.uptoBulk (.slice es sp) := by
  have := bulk_elems es sp
  have := bulk_mem h
  omega
theorem bulk_le {H : Type} (es sp : List (DataW H)) : es.length ≤ Rows.uptoBulk (.slice es sp) := by have := bulk_slice es sp; omega
end Go.Proofs.YtfdedkcidemimaaDoor
namespace Go.Proofs.YtfdedkcidemimaaDoor
set_option linter.unusedVariables false
open Go.ChangeShapes Go.WideShapes Go.ChangeAt Go.RowKit
theorem nth0 {α : Type} {x0 : α} {l : List α} : (x0 :: l).toArray[0]? = some x0 := rfl
theorem nth1 {α : Type} {x0 x1 : α} {l : List α} : (x0 :: x1 :: l).toArray[1]? = some x1 := rfl
theorem nth2 {α : Type} {x0 x1 x2 : α} {l : List α} : (x0 :: x1 :: x2 :: l).toArray[2]? = some x2 := rfl
theorem nth3 {α : Type} {x0 x1 x2 x3 : α} {l : List α} : (x0 :: x1 :: x2 :: x3 :: l).toArray[3]? = some x3 := rfl
theorem nth4 {α : Type} {x0 x1 x2 x3 x4 : α} {l : List α} : (x0 :: x1 :: x2 :: x3 :: x4 :: l).toArray[4]? = some x4 := rfl
theorem nth5 {α : Type} {x0 x1 x2 x3 x4 x5 : α} {l : List α} : (x0 :: x1 :: x2 :: x3 :: x4 :: x5 :: l).toArray[5]? = some x5 := rfl
theorem nth6 {α : Type} {x0 x1 x2 x3 x4 x5 x6 : α} {l : List α} : (x0 :: x1 :: x2 :: x3 :: x4 :: x5 :: x6 :: l).toArray[6]? = some x6 := rfl
theorem nth7 {α : Type} {x0 x1 x2 x3 x4 x5 x6 x7 : α} {l : List α} : (x0 :: x1 :: x2 :: x3 :: x4 :: x5 :: x6 :: x7 :: l).toArray[7]? = some x7 := rfl
theorem nth8 {α : Type} {x0 x1 x2 x3 x4 x5 x6 x7 x8 : α} {l : List α} : (x0 :: x1 :: x2 :: x3 :: x4 :: x5 :: x6 :: x7 :: x8 :: l).toArray[8]? = some x8 := rfl
theorem nth9 {α : Type} {x0 x1 x2 x3 x4 x5 x6 x7 x8 x9 : α} {l : List α} : (x0 :: x1 :: x2 :: x3 :: x4 :: x5 :: x6 :: x7 :: x8 :: x9 :: l).toArray[9]? = some x9 := rfl
theorem nth10 {α : Type} {x0 x1 x2 x3 x4 x5 x6 x7 x8 x9 x10 : α} {l : List α} : (x0 :: x1 :: x2 :: x3 :: x4 :: x5 :: x6 :: x7 :: x8 :: x9 :: x10 :: l).toArray[10]? = some x10 := rfl
theorem nth11 {α : Type} {x0 x1 x2 x3 x4 x5 x6 x7 x8 x9 x10 x11 : α} {l : List α} : (x0 :: x1 :: x2 :: x3 :: x4 :: x5 :: x6 :: x7 :: x8 :: x9 :: x10 :: x11 :: l).toArray[11]? = some x11 := rfl
theorem nth12 {α : Type} {x0 x1 x2 x3 x4 x5 x6 x7 x8 x9 x10 x11 x12 : α} {l : List α} : (x0 :: x1 :: x2 :: x3 :: x4 :: x5 :: x6 :: x7 :: x8 :: x9 :: x10 :: x11 :: x12 :: l).toArray[12]? = some x12 := rfl
theorem nth13 {α : Type} {x0 x1 x2 x3 x4 x5 x6 x7 x8 x9 x10 x11 x12 x13 : α} {l : List α} : (x0 :: x1 :: x2 :: x3 :: x4 :: x5 :: x6 :: x7 :: x8 :: x9 :: x10 :: x11 :: x12 :: x13 :: l).toArray[13]? = some x13 := rfl
theorem nth14 {α : Type} {x0 x1 x2 x3 x4 x5 x6 x7 x8 x9 x10 x11 x12 x13 x14 : α} {l : List α} : (x0 :: x1 :: x2 :: x3 :: x4 :: x5 :: x6 :: x7 :: x8 :: x9 :: x10 :: x11 :: x12 :: x13 :: x14 :: l).toArray[14]? = some x14 := rfl
theorem nth15 {α : Type} {x0 x1 x2 x3 x4 x5 x6 x7 x8 x9 x10 x11 x12 x13 x14 x15 : α} {l : List α} : (x0 :: x1 :: x2 :: x3 :: x4 :: x5 :: x6 :: x7 :: x8 :: x9 :: x10 :: x11 :: x12 :: x13 :: x14 :: x15 :: l).toArray[15]? = some x15 := rfl
theorem nth16 {α : Type} {x0 x1 x2 x3 x4 x5 x6 x7 x8 x9 x10 x11 x12 x13 x14 x15 x16 : α} {l : List α} : (x0 :: x1 :: x2 :: x3 :: x4 :: x5 :: x6 :: x7 :: x8 :: x9 :: x10 :: x11 :: x12 :: x13 :: x14 :: x15 :: x16 :: l).toArray[16]? = some x16 := rfl
theorem nth17 {α : Type} {x0 x1 x2 x3 x4 x5 x6 x7 x8 x9 x10 x11 x12 x13 x14 x15 x16 x17 : α} {l : List α} : (x0 :: x1 :: x2 :: x3 :: x4 :: x5 :: x6 :: x7 :: x8 :: x9 :: x10 :: x11 :: x12 :: x13 :: x14 :: x15 :: x16 :: x17 :: l).toArray[17]? = some x17 := rfl
theorem nth18 {α : Type} {x0 x1 x2 x3 x4 x5 x6 x7 x8 x9 x10 x11 x12 x13 x14 x15 x16 x17 x18 : α} {l : List α} : (x0 :: x1 :: x2 :: x3 :: x4 :: x5 :: x6 :: x7 :: x8 :: x9 :: x10 :: x11 :: x12 :: x13 :: x14 :: x15 :: x16 :: x17 :: x18 :: l).toArray[18]? = some x18 := rfl
theorem nth19 {α : Type} {x0 x1 x2 x3 x4 x5 x6 x7 x8 x9 x10 x11 x12 x13 x14 x15 x16 x17 x18 x19 : α} {l : List α} : (x0 :: x1 :: x2 :: x3 :: x4 :: x5 :: x6 :: x7 :: x8 :: x9 :: x10 :: x11 :: x12 :: x13 :: x14 :: x15 :: x16 :: x17 :: x18 :: x19 :: l).toArray[19]? = some x19 := rfl
theorem nth20 {α : Type} {x0 x1 x2 x3 x4 x5 x6 x7 x8 x9 x10 x11 x12 x13 x14 x15 x16 x17 x18 x19 x20 : α} {l : List α} : (x0 :: x1 :: x2 :: x3 :: x4 :: x5 :: x6 :: x7 :: x8 :: x9 :: x10 :: x11 :: x12 :: x13 :: x14 :: x15 :: x16 :: x17 :: x18 :: x19 :: x20 :: l).toArray[20]? = some x20 := rfl
theorem nth21 {α : Type} {x0 x1 x2 x3 x4 x5 x6 x7 x8 x9 x10 x11 x12 x13 x14 x15 x16 x17 x18 x19 x20 x21 : α} {l : List α} : (x0 :: x1 :: x2 :: x3 :: x4 :: x5 :: x6 :: x7 :: x8 :: x9 :: x10 :: x11 :: x12 :: x13 :: x14 :: x15 :: x16 :: x17 :: x18 :: x19 :: x20 :: x21 :: l).toArray[21]? = some x21 := rfl
theorem nth22 {α : Type} {x0 x1 x2 x3 x4 x5 x6 x7 x8 x9 x10 x11 x12 x13 x14 x15 x16 x17 x18 x19 x20 x21 x22 : α} {l : List α} : (x0 :: x1 :: x2 :: x3 :: x4 :: x5 :: x6 :: x7 :: x8 :: x9 :: x10 :: x11 :: x12 :: x13 :: x14 :: x15 :: x16 :: x17 :: x18 :: x19 :: x20 :: x21 :: x22 :: l).toArray[22]? = some x22 := rfl
theorem nth23 {α : Type} {x0 x1 x2 x3 x4 x5 x6 x7 x8 x9 x10 x11 x12 x13 x14 x15 x16 x17 x18 x19 x20 x21 x22 x23 : α} {l : List α} : (x0 :: x1 :: x2 :: x3 :: x4 :: x5 :: x6 :: x7 :: x8 :: x9 :: x10 :: x11 :: x12 :: x13 :: x14 :: x15 :: x16 :: x17 :: x18 :: x19 :: x20 :: x21 :: x22 :: x23 :: l).toArray[23]? = some x23 := rfl
theorem nth24 {α : Type} {x0 x1 x2 x3 x4 x5 x6 x7 x8 x9 x10 x11 x12 x13 x14 x15 x16 x17 x18 x19 x20 x21 x22 x23 x24 : α} {l : List α} : (x0 :: x1 :: x2 :: x3 :: x4 :: x5 :: x6 :: x7 :: x8 :: x9 :: x10 :: x11 :: x12 :: x13 :: x14 :: x15 :: x16 :: x17 :: x18 :: x19 :: x20 :: x21 :: x22 :: x23 :: x24 :: l).toArray[24]? = some x24 := rfl
theorem nth25 {α : Type} {x0 x1 x2 x3 x4 x5 x6 x7 x8 x9 x10 x11 x12 x13 x14 x15 x16 x17 x18 x19 x20 x21 x22 x23 x24 x25 : α} {l : List α} : (x0 :: x1 :: x2 :: x3 :: x4 :: x5 :: x6 :: x7 :: x8 :: x9 :: x10 :: x11 :: x12 :: x13 :: x14 :: x15 :: x16 :: x17 :: x18 :: x19 :: x20 :: x21 :: x22 :: x23 :: x24 :: x25 :: l).toArray[25]? = some x25 := rfl
theorem nth26 {α : Type} {x0 x1 x2 x3 x4 x5 x6 x7 x8 x9 x10 x11 x12 x13 x14 x15 x16 x17 x18 x19 x20 x21 x22 x23 x24 x25 x26 : α} {l : List α} : (x0 :: x1 :: x2 :: x3 :: x4 :: x5 :: x6 :: x7 :: x8 :: x9 :: x10 :: x11 :: x12 :: x13 :: x14 :: x15 :: x16 :: x17 :: x18 :: x19 :: x20 :: x21 :: x22 :: x23 :: x24 :: x25 :: x26 :: l).toArray[26]? = some x26 := rfl
theorem nth27 {α : Type} {x0 x1 x2 x3 x4 x5 x6 x7 x8 x9 x10 x11 x12 x13 x14 x15 x16 x17 x18 x19 x20 x21 x22 x23 x24 x25 x26 x27 : α} {l : List α} : (x0 :: x1 :: x2 :: x3 :: x4 :: x5 :: x6 :: x7 :: x8 :: x9 :: x10 :: x11 :: x12 :: x13 :: x14 :: x15 :: x16 :: x17 :: x18 :: x19 :: x20 :: x21 :: x22 :: x23 :: x24 :: x25 :: x26 :: x27 :: l).toArray[27]? = some x27 := rfl
theorem nth28 {α : Type} {x0 x1 x2 x3 x4 x5 x6 x7 x8 x9 x10 x11 x12 x13 x14 x15 x16 x17 x18 x19 x20 x21 x22 x23 x24 x25 x26 x27 x28 : α} {l : List α} : (x0 :: x1 :: x2 :: x3 :: x4 :: x5 :: x6 :: x7 :: x8 :: x9 :: x10 :: x11 :: x12 :: x13 :: x14 :: x15 :: x16 :: x17 :: x18 :: x19 :: x20 :: x21 :: x22 :: x23 :: x24 :: x25 :: x26 :: x27 :: x28 :: l).toArray[28]? = some x28 := rfl
theorem nth29 {α : Type} {x0 x1 x2 x3 x4 x5 x6 x7 x8 x9 x10 x11 x12 x13 x14 x15 x16 x17 x18 x19 x20 x21 x22 x23 x24 x25 x26 x27 x28 x29 : α} {l : List α} : (x0 :: x1 :: x2 :: x3 :: x4 :: x5 :: x6 :: x7 :: x8 :: x9 :: x10 :: x11 :: x12 :: x13 :: x14 :: x15 :: x16 :: x17 :: x18 :: x19 :: x20 :: x21 :: x22 :: x23 :: x24 :: x25 :: x26 :: x27 :: x28 :: x29 :: l).toArray[29]? = some x29 := rfl
theorem nth30 {α : Type} {x0 x1 x2 x3 x4 x5 x6 x7 x8 x9 x10 x11 x12 x13 x14 x15 x16 x17 x18 x19 x20 x21 x22 x23 x24 x25 x26 x27 x28 x29 x30 : α} {l : List α} : (x0 :: x1 :: x2 :: x3 :: x4 :: x5 :: x6 :: x7 :: x8 :: x9 :: x10 :: x11 :: x12 :: x13 :: x14 :: x15 :: x16 :: x17 :: x18 :: x19 :: x20 :: x21 :: x22 :: x23 :: x24 :: x25 :: x26 :: x27 :: x28 :: x29 :: x30 :: l).toArray[30]? = some x30 := rfl
theorem nth31 {α : Type} {x0 x1 x2 x3 x4 x5 x6 x7 x8 x9 x10 x11 x12 x13 x14 x15 x16 x17 x18 x19 x20 x21 x22 x23 x24 x25 x26 x27 x28 x29 x30 x31 : α} {l : List α} : (x0 :: x1 :: x2 :: x3 :: x4 :: x5 :: x6 :: x7 :: x8 :: x9 :: x10 :: x11 :: x12 :: x13 :: x14 :: x15 :: x16 :: x17 :: x18 :: x19 :: x20 :: x21 :: x22 :: x23 :: x24 :: x25 :: x26 :: x27 :: x28 :: x29 :: x30 :: x31 :: l).toArray[31]? = some x31 := rfl
theorem nth32 {α : Type} {x0 x1 x2 x3 x4 x5 x6 x7 x8 x9 x10 x11 x12 x13 x14 x15 x16 x17 x18 x19 x20 x21 x22 x23 x24 x25 x26 x27 x28 x29 x30 x31 x32 : α} {l : List α} : (x0 :: x1 :: x2 :: x3 :: x4 :: x5 :: x6 :: x7 :: x8 :: x9 :: x10 :: x11 :: x12 :: x13 :: x14 :: x15 :: x16 :: x17 :: x18 :: x19 :: x20 :: x21 :: x22 :: x23 :: x24 :: x25 :: x26 :: x27 :: x28 :: x29 :: x30 :: x31 :: x32 :: l).toArray[32]? = some x32 := rfl
theorem nth33 {α : Type} {x0 x1 x2 x3 x4 x5 x6 x7 x8 x9 x10 x11 x12 x13 x14 x15 x16 x17 x18 x19 x20 x21 x22 x23 x24 x25 x26 x27 x28 x29 x30 x31 x32 x33 : α} {l : List α} : (x0 :: x1 :: x2 :: x3 :: x4 :: x5 :: x6 :: x7 :: x8 :: x9 :: x10 :: x11 :: x12 :: x13 :: x14 :: x15 :: x16 :: x17 :: x18 :: x19 :: x20 :: x21 :: x22 :: x23 :: x24 :: x25 :: x26 :: x27 :: x28 :: x29 :: x30 :: x31 :: x32 :: x33 :: l).toArray[33]? = some x33 := rfl
theorem nth34 {α : Type} {x0 x1 x2 x3 x4 x5 x6 x7 x8 x9 x10 x11 x12 x13 x14 x15 x16 x17 x18 x19 x20 x21 x22 x23 x24 x25 x26 x27 x28 x29 x30 x31 x32 x33 x34 : α} {l : List α} : (x0 :: x1 :: x2 :: x3 :: x4 :: x5 :: x6 :: x7 :: x8 :: x9 :: x10 :: x11 :: x12 :: x13 :: x14 :: x15 :: x16 :: x17 :: x18 :: x19 :: x20 :: x21 :: x22 :: x23 :: x24 :: x25 :: x26 :: x27 :: x28 :: x29 :: x30 :: x31 :: x32 :: x33 :: x34 :: l).toArray[34]? = some x34 := rfl
theorem nth35 {α : Type} {x0 x1 x2 x3 x4 x5 x6 x7 x8 x9 x10 x11 x12 x13 x14 x15 x16 x17 x18 x19 x20 x21 x22 x23 x24 x25 x26 x27 x28 x29 x30 x31 x32 x33 x34 x35 : α} {l : List α} : (x0 :: x1 :: x2 :: x3 :: x4 :: x5 :: x6 :: x7 :: x8 :: x9 :: x10 :: x11 :: x12 :: x13 :: x14 :: x15 :: x16 :: x17 :: x18 :: x19 :: x20 :: x21 :: x22 :: x23 :: x24 :: x25 :: x26 :: x27 :: x28 :: x29 :: x30 :: x31 :: x32 :: x33 :: x34 :: x35 :: l).toArray[35]? = some x35 := rfl
theorem nth36 {α : Type} {x0 x1 x2 x3 x4 x5 x6 x7 x8 x9 x10 x11 x12 x13 x14 x15 x16 x17 x18 x19 x20 x21 x22 x23 x24 x25 x26 x27 x28 x29 x30 x31 x32 x33 x34 x35 x36 : α} {l : List α} : (x0 :: x1 :: x2 :: x3 :: x4 :: x5 :: x6 :: x7 :: x8 :: x9 :: x10 :: x11 :: x12 :: x13 :: x14 :: x15 :: x16 :: x17 :: x18 :: x19 :: x20 :: x21 :: x22 :: x23 :: x24 :: x25 :: x26 :: x27 :: x28 :: x29 :: x30 :: x31 :: x32 :: x33 :: x34 :: x35 :: x36 :: l).toArray[36]? = some x36 := rfl
theorem nth37 {α : Type} {x0 x1 x2 x3 x4 x5 x6 x7 x8 x9 x10 x11 x12 x13 x14 x15 x16 x17 x18 x19 x20 x21 x22 x23 x24 x25 x26 x27 x28 x29 x30 x31 x32 x33 x34 x35 x36 x37 : α} {l : List α} : (x0 :: x1 :: x2 :: x3 :: x4 :: x5 :: x6 :: x7 :: x8 :: x9 :: x10 :: x11 :: x12 :: x13 :: x14 :: x15 :: x16 :: x17 :: x18 :: x19 :: x20 :: x21 :: x22 :: x23 :: x24 :: x25 :: x26 :: x27 :: x28 :: x29 :: x30 :: x31 :: x32 :: x33 :: x34 :: x35 :: x36 :: x37 :: l).toArray[37]? = some x37 := rfl
theorem nth38 {α : Type} {x0 x1 x2 x3 x4 x5 x6 x7 x8 x9 x10 x11 x12 x13 x14 x15 x16 x17 x18 x19 x20 x21 x22 x23 x24 x25 x26 x27 x28 x29 x30 x31 x32 x33 x34 x35 x36 x37 x38 : α} {l : List α} : (x0 :: x1 :: x2 :: x3 :: x4 :: x5 :: x6 :: x7 :: x8 :: x9 :: x10 :: x11 :: x12 :: x13 :: x14 :: x15 :: x16 :: x17 :: x18 :: x19 :: x20 :: x21 :: x22 :: x23 :: x24 :: x25 :: x26 :: x27 :: x28 :: x29 :: x30 :: x31 :: x32 :: x33 :: x34 :: x35 :: x36 :: x37 :: x38 :: l).toArray[38]? = some x38 := rfl
theorem nth39 {α : Type} {x0 x1 x2 x3 x4 x5 x6 x7 x8 x9 x10 x11 x12 x13 x14 x15 x16 x17 x18 x19 x20 x21 x22 x23 x24 x25 x26 x27 x28 x29 x30 x31 x32 x33 x34 x35 x36 x37 x38 x39 : α} {l : List α} : (x0 :: x1 :: x2 :: x3 :: x4 :: x5 :: x6 :: x7 :: x8 :: x9 :: x10 :: x11 :: x12 :: x13 :: x14 :: x15 :: x16 :: x17 :: x18 :: x19 :: x20 :: x21 :: x22 :: x23 :: x24 :: x25 :: x26 :: x27 :: x28 :: x29 :: x30 :: x31 :: x32 :: x33 :: x34 :: x35 :: x36 :: x37 :: x38 :: x39 :: l).toArray[39]? = some x39 := rfl
theorem nth40 {α : Type} {x0 x1 x2 x3 x4 x5 x6 x7 x8 x9 x10 x11 x12 x13 x14 x15 x16 x17 x18 x19 x20 x21 x22 x23 x24 x25 x26 x27 x28 x29 x30 x31 x32 x33 x34 x35 x36 x37 x38 x39 x40 : α} {l : List α} : (x0 :: x1 :: x2 :: x3 :: x4 :: x5 :: x6 :: x7 :: x8 :: x9 :: x10 :: x11 :: x12 :: x13 :: x14 :: x15 :: x16 :: x17 :: x18 :: x19 :: x20 :: x21 :: x22 :: x23 :: x24 :: x25 :: x26 :: x27 :: x28 :: x29 :: x30 :: x31 :: x32 :: x33 :: x34 :: x35 :: x36 :: x37 :: x38 :: x39 :: x40 :: l).toArray[40]? = some x40 := rfl
theorem nth41 {α : Type} {x0 x1 x2 x3 x4 x5 x6 x7 x8 x9 x10 x11 x12 x13 x14 x15 x16 x17 x18 x19 x20 x21 x22 x23 x24 x25 x26 x27 x28 x29 x30 x31 x32 x33 x34 x35 x36 x37 x38 x39 x40 x41 : α} {l : List α} : (x0 :: x1 :: x2 :: x3 :: x4 :: x5 :: x6 :: x7 :: x8 :: x9 :: x10 :: x11 :: x12 :: x13 :: x14 :: x15 :: x16 :: x17 :: x18 :: x19 :: x20 :: x21 :: x22 :: x23 :: x24 :: x25 :: x26 :: x27 :: x28 :: x29 :: x30 :: x31 :: x32 :: x33 :: x34 :: x35 :: x36 :: x37 :: x38 :: x39 :: x40 :: x41 :: l).toArray[41]? = some x41 := rfl
theorem nth42 {α : Type} {x0 x1 x2 x3 x4 x5 x6 x7 x8 x9 x10 x11 x12 x13 x14 x15 x16 x17 x18 x19 x20 x21 x22 x23 x24 x25 x26 x27 x28 x29 x30 x31 x32 x33 x34 x35 x36 x37 x38 x39 x40 x41 x42 : α} {l : List α} : (x0 :: x1 :: x2 :: x3 :: x4 :: x5 :: x6 :: x7 :: x8 :: x9 :: x10 :: x11 :: x12 :: x13 :: x14 :: x15 :: x16 :: x17 :: x18 :: x19 :: x20 :: x21 :: x22 :: x23 :: x24 :: x25 :: x26 :: x27 :: x28 :: x29 :: x30 :: x31 :: x32 :: x33 :: x34 :: x35 :: x36 :: x37 :: x38 :: x39 :: x40 :: x41 :: x42 :: l).toArray[42]? = some x42 := rfl
theorem nth43 {α : Type} {x0 x1 x2 x3 x4 x5 x6 x7 x8 x9 x10 x11 x12 x13 x14 x15 x16 x17 x18 x19 x20 x21 x22 x23 x24 x25 x26 x27 x28 x29 x30 x31 x32 x33 x34 x35 x36 x37 x38 x39 x40 x41 x42 x43 : α} {l : List α} : (x0 :: x1 :: x2 :: x3 :: x4 :: x5 :: x6 :: x7 :: x8 :: x9 :: x10 :: x11 :: x12 :: x13 :: x14 :: x15 :: x16 :: x17 :: x18 :: x19 :: x20 :: x21 :: x22 :: x23 :: x24 :: x25 :: x26 :: x27 :: x28 :: x29 :: x30 :: x31 :: x32 :: x33 :: x34 :: x35 :: x36 :: x37 :: x38 :: x39 :: x40 :: x41 :: x42 :: x43 :: l).toArray[43]? = some x43 := rfl
theorem nth44 {α : Type} {x0 x1 x2 x3 x4 x5 x6 x7 x8 x9 x10 x11 x12 x13 x14 x15 x16 x17 x18 x19 x20 x21 x22 x23 x24 x25 x26 x27 x28 x29 x30 x31 x32 x33 x34 x35 x36 x37 x38 x39 x40 x41 x42 x43 x44 : α} {l : List α} : (x0 :: x1 :: x2 :: x3 :: x4 :: x5 :: x6 :: x7 :: x8 :: x9 :: x10 :: x11 :: x12 :: x13 :: x14 :: x15 :: x16 :: x17 :: x18 :: x19 :: x20 :: x21 :: x22 :: x23 :: x24 :: x25 :: x26 :: x27 :: x28 :: x29 :: x30 :: x31 :: x32 :: x33 :: x34 :: x35 :: x36 :: x37 :: x38 :: x39 :: x40 :: x41 :: x42 :: x43 :: x44 :: l).toArray[44]? = some x44 := rfl
theorem nth45 {α : Type} {x0 x1 x2 x3 x4 x5 x6 x7 x8 x9 x10 x11 x12 x13 x14 x15 x16 x17 x18 x19 x20 x21 x22 x23 x24 x25 x26 x27 x28 x29 x30 x31 x32 x33 x34 x35 x36 x37 x38 x39 x40 x41 x42 x43 x44 x45 : α} {l : List α} : (x0 :: x1 :: x2 :: x3 :: x4 :: x5 :: x6 :: x7 :: x8 :: x9 :: x10 :: x11 :: x12 :: x13 :: x14 :: x15 :: x16 :: x17 :: x18 :: x19 :: x20 :: x21 :: x22 :: x23 :: x24 :: x25 :: x26 :: x27 :: x28 :: x29 :: x30 :: x31 :: x32 :: x33 :: x34 :: x35 :: x36 :: x37 :: x38 :: x39 :: x40 :: x41 :: x42 :: x43 :: x44 :: x45 :: l).toArray[45]? = some x45 := rfl
theorem nth46 {α : Type} {x0 x1 x2 x3 x4 x5 x6 x7 x8 x9 x10 x11 x12 x13 x14 x15 x16 x17 x18 x19 x20 x21 x22 x23 x24 x25 x26 x27 x28 x29 x30 x31 x32 x33 x34 x35 x36 x37 x38 x39 x40 x41 x42 x43 x44 x45 x46 : α} {l : List α} : (x0 :: x1 :: x2 :: x3 :: x4 :: x5 :: x6 :: x7 :: x8 :: x9 :: x10 :: x11 :: x12 :: x13 :: x14 :: x15 :: x16 :: x17 :: x18 :: x19 :: x20 :: x21 :: x22 :: x23 :: x24 :: x25 :: x26 :: x27 :: x28 :: x29 :: x30 :: x31 :: x32 :: x33 :: x34 :: x35 :: x36 :: x37 :: x38 :: x39 :: x40 :: x41 :: x42 :: x43 :: x44 :: x45 :: x46 :: l).toArray[46]? = some x46 := rfl
theorem nth47 {α : Type} {x0 x1 x2 x3 x4 x5 x6 x7 x8 x9 x10 x11 x12 x13 x14 x15 x16 x17 x18 x19 x20 x21 x22 x23 x24 x25 x26 x27 x28 x29 x30 x31 x32 x33 x34 x35 x36 x37 x38 x39 x40 x41 x42 x43 x44 x45 x46 x47 : α} {l : List α} : (x0 :: x1 :: x2 :: x3 :: x4 :: x5 :: x6 :: x7 :: x8 :: x9 :: x10 :: x11 :: x12 :: x13 :: x14 :: x15 :: x16 :: x17 :: x18 :: x19 :: x20 :: x21 :: x22 :: x23 :: x24 :: x25 :: x26 :: x27 :: x28 :: x29 :: x30 :: x31 :: x32 :: x33 :: x34 :: x35 :: x36 :: x37 :: x38 :: x39 :: x40 :: x41 :: x42 :: x43 :: x44 :: x45 :: x46 :: x47 :: l).toArray[47]? = some x47 := rfl
theorem nth48 {α : Type} {x0 x1 x2 x3 x4 x5 x6 x7 x8 x9 x10 x11 x12 x13 x14 x15 x16 x17 x18 x19 x20 x21 x22 x23 x24 x25 x26 x27 x28 x29 x30 x31 x32 x33 x34 x35 x36 x37 x38 x39 x40 x41 x42 x43 x44 x45 x46 x47 x48 : α} {l : List α} : (x0 :: x1 :: x2 :: x3 :: x4 :: x5 :: x6 :: x7 :: x8 :: x9 :: x10 :: x11 :: x12 :: x13 :: x14 :: x15 :: x16 :: x17 :: x18 :: x19 :: x20 :: x21 :: x22 :: x23 :: x24 :: x25 :: x26 :: x27 :: x28 :: x29 :: x30 :: x31 :: x32 :: x33 :: x34 :: x35 :: x36 :: x37 :: x38 :: x39 :: x40 :: x41 :: x42 :: x43 :: x44 :: x45 :: x46 :: x47 :: x48 :: l).toArray[48]? = some x48 := rfl
theorem nth49 {α : Type} {x0 x1 x2 x3 x4 x5 x6 x7 x8 x9 x10 x11 x12 x13 x14 x15 x16 x17 x18 x19 x20 x21 x22 x23 x24 x25 x26 x27 x28 x29 x30 x31 x32 x33 x34 x35 x36 x37 x38 x39 x40 x41 x42 x43 x44 x45 x46 x47 x48 x49 : α} {l : List α} : (x0 :: x1 :: x2 :: x3 :: x4 :: x5 :: x6 :: x7 :: x8 :: x9 :: x10 :: x11 :: x12 :: x13 :: x14 :: x15 :: x16 :: x17 :: x18 :: x19 :: x20 :: x21 :: x22 :: x23 :: x24 :: x25 :: x26 :: x27 :: x28 :: x29 :: x30 :: x31 :: x32 :: x33 :: x34 :: x35 :: x36 :: x37 :: x38 :: x39 :: x40 :: x41 :: x42 :: x43 :: x44 :: x45 :: x46 :: x47 :: x48 :: x49 :: l).toArray[49]? = some x49 := rfl
theorem nth50 {α : Type} {x0 x1 x2 x3 x4 x5 x6 x7 x8 x9 x10 x11 x12 x13 x14 x15 x16 x17 x18 x19 x20 x21 x22 x23 x24 x25 x26 x27 x28 x29 x30 x31 x32 x33 x34 x35 x36 x37 x38 x39 x40 x41 x42 x43 x44 x45 x46 x47 x48 x49 x50 : α} {l : List α} : (x0 :: x1 :: x2 :: x3 :: x4 :: x5 :: x6 :: x7 :: x8 :: x9 :: x10 :: x11 :: x12 :: x13 :: x14 :: x15 :: x16 :: x17 :: x18 :: x19 :: x20 :: x21 :: x22 :: x23 :: x24 :: x25 :: x26 :: x27 :: x28 :: x29 :: x30 :: x31 :: x32 :: x33 :: x34 :: x35 :: x36 :: x37 :: x38 :: x39 :: x40 :: x41 :: x42 :: x43 :: x44 :: x45 :: x46 :: x47 :: x48 :: x49 :: x50 :: l).toArray[50]? = some x50 := rfl
theorem nth51 {α : Type} {x0 x1 x2 x3 x4 x5 x6 x7 x8 x9 x10 x11 x12 x13 x14 x15 x16 x17 x18 x19 x20 x21 x22 x23 x24 x25 x26 x27 x28 x29 x30 x31 x32 x33 x34 x35 x36 x37 x38 x39 x40 x41 x42 x43 x44 x45 x46 x47 x48 x49 x50 x51 : α} {l : List α} : (x0 :: x1 :: x2 :: x3 :: x4 :: x5 :: x6 :: x7 :: x8 :: x9 :: x10 :: x11 :: x12 :: x13 :: x14 :: x15 :: x16 :: x17 :: x18 :: x19 :: x20 :: x21 :: x22 :: x23 :: x24 :: x25 :: x26 :: x27 :: x28 :: x29 :: x30 :: x31 :: x32 :: x33 :: x34 :: x35 :: x36 :: x37 :: x38 :: x39 :: x40 :: x41 :: x42 :: x43 :: x44 :: x45 :: x46 :: x47 :: x48 :: x49 :: x50 :: x51 :: l).toArray[51]? = some x51 := rfl
theorem nth52 {α : Type} {x0 x1 x2 x3 x4 x5 x6 x7 x8 x9 x10 x11 x12 x13 x14 x15 x16 x17 x18 x19 x20 x21 x22 x23 x24 x25 x26 x27 x28 x29 x30 x31 x32 x33 x34 x35 x36 x37 x38 x39 x40 x41 x42 x43 x44 x45 x46 x47 x48 x49 x50 x51 x52 : α} {l : List α} : (x0 :: x1 :: x2 :: x3 :: x4 :: x5 :: x6 :: x7 :: x8 :: x9 :: x10 :: x11 :: x12 :: x13 :: x14 :: x15 :: x16 :: x17 :: x18 :: x19 :: x20 :: x21 :: x22 :: x23 :: x24 :: x25 :: x26 :: x27 :: x28 :: x29 :: x30 :: x31 :: x32 :: x33 :: x34 :: x35 :: x36 :: x37 :: x38 :: x39 :: x40 :: x41 :: x42 :: x43 :: x44 :: x45 :: x46 :: x47 :: x48 :: x49 :: x50 :: x51 :: x52 :: l).toArray[52]? = some x52 := rfl
theorem nth53 {α : Type} {x0 x1 x2 x3 x4 x5 x6 x7 x8 x9 x10 x11 x12 x13 x14 x15 x16 x17 x18 x19 x20 x21 x22 x23 x24 x25 x26 x27 x28 x29 x30 x31 x32 x33 x34 x35 x36 x37 x38 x39 x40 x41 x42 x43 x44 x45 x46 x47 x48 x49 x50 x51 x52 x53 : α} {l : List α} : (x0 :: x1 :: x2 :: x3 :: x4 :: x5 :: x6 :: x7 :: x8 :: x9 :: x10 :: x11 :: x12 :: x13 :: x14 :: x15 :: x16 :: x17 :: x18 :: x19 :: x20 :: x21 :: x22 :: x23 :: x24 :: x25 :: x26 :: x27 :: x28 :: x29 :: x30 :: x31 :: x32 :: x33 :: x34 :: x35 :: x36 :: x37 :: x38 :: x39 :: x40 :: x41 :: x42 :: x43 :: x44 :: x45 :: x46 :: x47 :: x48 :: x49 :: x50 :: x51 :: x52 :: x53 :: l).toArray[53]? = some x53 := rfl
theorem nth54 {α : Type} {x0 x1 x2 x3 x4 x5 x6 x7 x8 x9 x10 x11 x12 x13 x14 x15 x16 x17 x18 x19 x20 x21 x22 x23 x24 x25 x26 x27 x28 x29 x30 x31 x32 x33 x34 x35 x36 x37 x38 x39 x40 x41 x42 x43 x44 x45 x46 x47 x48 x49 x50 x51 x52 x53 x54 : α} {l : List α} : (x0 :: x1 :: x2 :: x3 :: x4 :: x5 :: x6 :: x7 :: x8 :: x9 :: x10 :: x11 :: x12 :: x13 :: x14 :: x15 :: x16 :: x17 :: x18 :: x19 :: x20 :: x21 :: x22 :: x23 :: x24 :: x25 :: x26 :: x27 :: x28 :: x29 :: x30 :: x31 :: x32 :: x33 :: x34 :: x35 :: x36 :: x37 :: x38 :: x39 :: x40 :: x41 :: x42 :: x43 :: x44 :: x45 :: x46 :: x47 :: x48 :: x49 :: x50 :: x51 :: x52 :: x53 :: x54 :: l).toArray[54]? = some x54 := rfl
theorem nth55 {α : Type} {x0 x1 x2 x3 x4 x5 x6 x7 x8 x9 x10 x11 x12 x13 x14 x15 x16 x17 x18 x19 x20 x21 x22 x23 x24 x25 x26 x27 x28 x29 x30 x31 x32 x33 x34 x35 x36 x37 x38 x39 x40 x41 x42 x43 x44 x45 x46 x47 x48 x49 x50 x51 x52 x53 x54 x55 : α} {l : List α} : (x0 :: x1 :: x2 :: x3 :: x4 :: x5 :: x6 :: x7 :: x8 :: x9 :: x10 :: x11 :: x12 :: x13 :: x14 :: x15 :: x16 :: x17 :: x18 :: x19 :: x20 :: x21 :: x22 :: x23 :: x24 :: x25 :: x26 :: x27 :: x28 :: x29 :: x30 :: x31 :: x32 :: x33 :: x34 :: x35 :: x36 :: x37 :: x38 :: x39 :: x40 :: x41 :: x42 :: x43 :: x44 :: x45 :: x46 :: x47 :: x48 :: x49 :: x50 :: x51 :: x52 :: x53 :: x54 :: x55 :: l).toArray[55]? = some x55 := rfl
theorem nth56 {α : Type} {x0 x1 x2 x3 x4 x5 x6 x7 x8 x9 x10 x11 x12 x13 x14 x15 x16 x17 x18 x19 x20 x21 x22 x23 x24 x25 x26 x27 x28 x29 x30 x31 x32 x33 x34 x35 x36 x37 x38 x39 x40 x41 x42 x43 x44 x45 x46 x47 x48 x49 x50 x51 x52 x53 x54 x55 x56 : α} {l : List α} : (x0 :: x1 :: x2 :: x3 :: x4 :: x5 :: x6 :: x7 :: x8 :: x9 :: x10 :: x11 :: x12 :: x13 :: x14 :: x15 :: x16 :: x17 :: x18 :: x19 :: x20 :: x21 :: x22 :: x23 :: x24 :: x25 :: x26 :: x27 :: x28 :: x29 :: x30 :: x31 :: x32 :: x33 :: x34 :: x35 :: x36 :: x37 :: x38 :: x39 :: x40 :: x41 :: x42 :: x43 :: x44 :: x45 :: x46 :: x47 :: x48 :: x49 :: x50 :: x51 :: x52 :: x53 :: x54 :: x55 :: x56 :: l).toArray[56]? = some x56 := rfl
theorem nth57 {α : Type} {x0 x1 x2 x3 x4 x5 x6 x7 x8 x9 x10 x11 x12 x13 x14 x15 x16 x17 x18 x19 x20 x21 x22 x23 x24 x25 x26 x27 x28 x29 x30 x31 x32 x33 x34 x35 x36 x37 x38 x39 x40 x41 x42 x43 x44 x45 x46 x47 x48 x49 x50 x51 x52 x53 x54 x55 x56 x57 : α} {l : List α} : (x0 :: x1 :: x2 :: x3 :: x4 :: x5 :: x6 :: x7 :: x8 :: x9 :: x10 :: x11 :: x12 :: x13 :: x14 :: x15 :: x16 :: x17 :: x18 :: x19 :: x20 :: x21 :: x22 :: x23 :: x24 :: x25 :: x26 :: x27 :: x28 :: x29 :: x30 :: x31 :: x32 :: x33 :: x34 :: x35 :: x36 :: x37 :: x38 :: x39 :: x40 :: x41 :: x42 :: x43 :: x44 :: x45 :: x46 :: x47 :: x48 :: x49 :: x50 :: x51 :: x52 :: x53 :: x54 :: x55 :: x56 :: x57 :: l).toArray[57]? = some x57 := rfl
theorem nth58 {α : Type} {x0 x1 x2 x3 x4 x5 x6 x7 x8 x9 x10 x11 x12 x13 x14 x15 x16 x17 x18 x19 x20 x21 x22 x23 x24 x25 x26 x27 x28 x29 x30 x31 x32 x33 x34 x35 x36 x37 x38 x39 x40 x41 x42 x43 x44 x45 x46 x47 x48 x49 x50 x51 x52 x53 x54 x55 x56 x57 x58 : α} {l : List α} : (x0 :: x1 :: x2 :: x3 :: x4 :: x5 :: x6 :: x7 :: x8 :: x9 :: x10 :: x11 :: x12 :: x13 :: x14 :: x15 :: x16 :: x17 :: x18 :: x19 :: x20 :: x21 :: x22 :: x23 :: x24 :: x25 :: x26 :: x27 :: x28 :: x29 :: x30 :: x31 :: x32 :: x33 :: x34 :: x35 :: x36 :: x37 :: x38 :: x39 :: x40 :: x41 :: x42 :: x43 :: x44 :: x45 :: x46 :: x47 :: x48 :: x49 :: x50 :: x51 :: x52 :: x53 :: x54 :: x55 :: x56 :: x57 :: x58 :: l).toArray[58]? = some x58 := rfl
theorem nth59 {α : Type} {x0 x1 x2 x3 x4 x5 x6 x7 x8 x9 x10 x11 x12 x13 x14 x15 x16 x17 x18 x19 x20 x21 x22 x23 x24 x25 x26 x27 x28 x29 x30 x31 x32 x33 x34 x35 x36 x37 x38 x39 x40 x41 x42 x43 x44 x45 x46 x47 x48 x49 x50 x51 x52 x53 x54 x55 x56 x57 x58 x59 : α} {l : List α} : (x0 :: x1 :: x2 :: x3 :: x4 :: x5 :: x6 :: x7 :: x8 :: x9 :: x10 :: x11 :: x12 :: x13 :: x14 :: x15 :: x16 :: x17 :: x18 :: x19 :: x20 :: x21 :: x22 :: x23 :: x24 :: x25 :: x26 :: x27 :: x28 :: x29 :: x30 :: x31 :: x32 :: x33 :: x34 :: x35 :: x36 :: x37 :: x38 :: x39 :: x40 :: x41 :: x42 :: x43 :: x44 :: x45 :: x46 :: x47 :: x48 :: x49 :: x50 :: x51 :: x52 :: x53 :: x54 :: x55 :: x56 :: x57 :: x58 :: x59 :: l).toArray[59]? = some x59 := rfl
end Go.Proofs.YtfdedkcidemimaaDoor
namespace Go.Proofs.YtfdedkcidemimaaDoor
set_option linter.unusedVariables false
open Go.ChangeShapes Go.WideShapes Go.ChangeAt Go.RowKit

structure SlAt {α : Type} (f : α → List Value) (k : Nat) (w : World) (B : Nat) (A : Option Addr) (n c : Nat) (l : List α) : Prop where
  len : l.length = n
  cap : n ≤ c
  max : c ≤ maxLen
  nil : A = none → n = 0
  recs : Recs w B A k (l.map f)
section
variable {α : Type} {f : α → List Value} {k : Nat} {w w' : World} {B B' n c : Nat} {A : Option Addr} {l : List α}
theorem SlAt.below (h : SlAt f k w B A n c l) (hb : Below B w w') : SlAt f k w' B A n c l := ⟨h.len, h.cap, h.max, h.nil, h.recs.below hb⟩
theorem SlAt.more (h : SlAt f k w B A n c l) (hb : B ≤ B') : SlAt f k w B' A n c l := ⟨h.len, h.cap, h.max, h.nil, h.recs.more hb⟩
theorem SlAt.kept (h : SlAt f k w w.heap.size A n c l) (hb : Below w.heap.size w w') : SlAt f k w' w'.heap.size A n c l := (h.below hb).more hb.size
theorem SlAt.empty (f : α → List Value) (k : Nat) (w : World) (B : Nat) : SlAt f k w B none 0 0 [] := ⟨rfl, Nat.le_refl _, Nat.zero_le _, fun _ => rfl, ⟨by simp, Cells.none _ _ _⟩⟩
theorem SlAt.at (h : SlAt f k w B A n c l) (hk : 0 < k) {i : Nat} (hi : i < n) : ∃ b off x, A = some ⟨b, off, none⟩ ∧ b < B ∧ l[i]? = some x ∧ ∀ j u, (f x)[j]? = some u → w.cell? ⟨b, off + (i * k + j), none⟩ = some u := by
  have hl := h.len
  obtain ⟨b, off, e, hlt, hc⟩ := h.recs.at hk (by rw [List.length_map]; omega)
  have hx : l[i]? = some (l[i]'(by omega)) := List.getElem?_eq_getElem (by omega)
  have hy : (l.map f)[i]? = some (f (l[i]'(by omega))) := by rw [List.getElem?_map, hx]; rfl
  exact ⟨b, off, _, e, hlt, hx, fun j u hu => hc i _ j u hy hu⟩
theorem own_max {base : Nat} {e : TypeId} {size : Nat} {xs : List Value} (h : w.ownsRow base e size (.slice A n c) n xs) : c ≤ maxLen := by
  rcases h.2 with ⟨hv, hz⟩ | ⟨g, cap, cur, hv, _, _, _, hm, _⟩
  · injection hv with _ _ h3
    rw [h3]
    exact Nat.zero_le _
  · injection hv with _ _ h3
    rw [h3]
    exact hm
/-- A row of the call's own is a slice that is there. -/
theorem sl_of_own {base : Nat} {e : TypeId} {v : Value} (h : w.ownsRow base e k v l.length (l.map f).flatten) (hf : ∀ x, (f x).length = k) : ∃ A c, v = .slice A l.length c ∧ SlAt f k w w.heap.size A l.length c l := by
  obtain ⟨A, c, rfl, hnc, hA, hC⟩ := own_form h
  exact ⟨A, c, rfl, rfl, hnc, own_max h, hA, ⟨by intro xs hx; obtain ⟨x, _, rfl⟩ := List.mem_map.1 hx; exact hf x, hC⟩⟩
/-- A slice that a literal makes. -/
theorem sl_lit (w : World) (cs : Array Value) (t : TypeId) {n : Nat} (hl : l.length = n) (hf : ∀ x, (f x).length = k) (hcs : cs.toList = (l.map f).flatten) (hm : n ≤ maxLen) : SlAt f k (w.alloc (.cells cs t)) (w.alloc (.cells cs t)).heap.size (some ⟨w.heap.size, 0, none⟩) n n l := by
  refine ⟨hl, Nat.le_refl _, hm, (by simp), ⟨by intro xs hx; obtain ⟨x, _, rfl⟩ := List.mem_map.1 hx; exact hf x, ?_⟩⟩
  rw [← hcs, World.size_alloc]
  exact cells_lit w cs t
end
theorem take_at {α : Type} {l : List α} {j : Nat} {c : α} (h : l[j]? = some c) : l.take (j + 1) = l.take j ++ [c] := by
  obtain ⟨hl, rfl⟩ := List.getElem?_eq_some_iff.1 h
  exact List.take_succ_eq_append_getElem hl
theorem drop_at {α : Type} {l : List α} {j : Nat} {c : α} (h : l[j]? = some c) : l.drop j = c :: l.drop (j + 1) := by
  obtain ⟨hl, rfl⟩ := List.getElem?_eq_some_iff.1 h
  exact List.drop_eq_getElem_cons hl
end Go.Proofs.YtfdedkcidemimaaDoor
namespace Go.Proofs.YtfdedkcidemimaaDoor
set_option linter.unusedVariables false
open Go.ChangeShapes Go.WideShapes Go.ChangeAt Go.RowKit

def tab (f : Nat → Value) (n : Nat) : Array Value := (List.map f (List.range n)).toArray
theorem tab_at (f : Nat → Value) {n i : Nat} (h : i < n) : (tab f n)[i]? = some (f i) := by simp [tab, h]
theorem tab_set (f : Nat → Value) (n i : Nat) (u : Value) : (tab f n).setIfInBounds i u = tab (fun j => if j = i then u else f j) n := by
  unfold tab
  rw [List.setIfInBounds_toArray]
  congr 1
  apply List.ext_getElem?
  intro j
  rw [List.getElem?_set, List.getElem?_map, List.getElem?_map, List.length_map, List.length_range]
  by_cases hj : j < n
  · rw [List.getElem?_range hj]
    by_cases hi : i = j
    · subst hi; simp [hj]
    · rw [if_neg hi]
      have : j ≠ i := fun e => hi e.symm
      simp [this]
  · have : (List.range n)[j]? = none := by rw [List.getElem?_eq_none]; simp; omega
    rw [this]
    by_cases hi : i = j
    · subst hi; simp [hj]
    · simp [hi]
theorem tab_congr {f g : Nat → Value} {n : Nat} (h : ∀ i, i < n → f i = g i) : tab f n = tab g n := by
  unfold tab
  congr 1
  exact List.map_congr_left fun i hi => h i (List.mem_range.1 hi)
/-- Block b holds just these cells. -/
def TabAt (w : World) (b : Nat) (t : TypeId) (f : Nat → Value) (n : Nat) : Prop := w.heap[b]? = some (.cells (tab f n) t (0, 0))
section
variable {w w' : World} {b n : Nat} {t : TypeId} {f : Nat → Value}
theorem TabAt.lt (h : TabAt w b t f n) : b < w.heap.size := (Array.getElem?_eq_some_iff.1 h).1
theorem TabAt.cell (h : TabAt w b t f n) {i : Nat} (hi : i < n) : w.cell? ⟨b, i, none⟩ = some (f i) := (cell_of_row w b i _ t (0, 0) h).trans (tab_at f hi)
theorem TabAt.unfrozen (h : TabAt w b t f n) (i : Nat) : w.frozen? ⟨b, i, none⟩ = false := by
  unfold TabAt at h
  simp [World.frozen?, h]
theorem TabAt.drew (h : TabAt w b t f n) (m : Nat) : TabAt (w.drewN m) b t f n := h
theorem TabAt.set (h : TabAt w b t f n) (i : Nat) (u : Value) : TabAt (w.setCell ⟨b, i, none⟩ u) b t (fun j => if j = i then u else f j) n := by
  unfold TabAt at h ⊢
  rw [← tab_set]
  simp [World.setCell, Array.getElem?_modify, h]
theorem TabAt.far (h : TabAt w b t f n) {p : Addr} (hp : b ≠ p.block) (u : Value) : TabAt (w.setCell p u) b t f n := (Below.heap_setCell w p u b hp).trans h
theorem TabAt.kept (h : TabAt w b t f n) (hb : Below w.heap.size w w') : TabAt w' b t f n := (hb.block b h.lt).trans h
theorem TabAt.congr {g : Nat → Value} (h : TabAt w b t f n) (hf : ∀ i, i < n → f i = g i) : TabAt w b t g n := by
  unfold TabAt at h ⊢
  rw [← tab_congr hf]
  exact h
end
theorem wpList_make_tab {P : Program} (w : World) {ops : Array Oper} {rest : List Oper} {o : Oper} {a : Act} {Q : Exit → Act → World → Prop}
    (hg : o.guard = none) (l c : Operand) (t : TypeId) (hop : o.op = Op.makeSlice t l c)
    (e : TypeId) (z : Value) (bytes : Nat) (ht : P.underlying t = some (.slice e)) (hinfo : (P.info? e).map (fun i => (i.zero, i.size, i.bytes)) = some (some z, 1, bytes)) (hz1 : z.cells = #[z])
    (kl kc : IntKind) (C D : Int) (n : Nat) (hl : a.eval l = .int kl C) (hc : a.eval c = .int kc D) (hC : C = (n : Int)) (hD : D = (n : Int)) (b2 : bytes * n ≤ 281474976710656) (b3 : n ≤ 9223372036854775807)
    (hK : ∀ w' g, w.heap.size = g → TabAt w' g e (fun _ => z) n → Below w.heap.size w w' → w'.heap.size = g + 1 → wpList P ops Q rest (a.put o.dst (.slice (some ⟨g, 0, none⟩) n n)) w') :
    wpList P ops Q (o :: rest) a w := by
  refine wpList_plain hg fun K hK' => ?_
  have hrun := run_make_row' (P := P) t e z bytes ht hinfo hz1 kl kc n b2 b3 w
  have e1 : madeCells #[z] n = tab (fun _ => z) n := by
    apply Array.ext'
    rw [toList_madeCells_one, tab, List.map_const', List.length_range]
  rw [e1] at hrun
  subst hC hD
  unfold Oper.wp
  simp [execOp, hop, hl, hc, hrun, Result.andThen]
  exact hK' _ _ (hK _ _ rfl (heap_alloc_new w _) (Bel.one w _) (World.size_alloc w _))
end Go.Proofs.YtfdedkcidemimaaDoor
namespace Go.Proofs.YtfdedkcidemimaaDoor
set_option linter.unusedVariables false
open Go.ChangeShapes Go.WideShapes Go.ChangeAt Go.RowKit Go.Deep
section
variable {H : Type} {enc : TypeId × Value → H} {P : Program} {w : World} {base : Nat} {spare : Nat → Bool} {held : Bool}
theorem field_of {t : TypeId} {fs : Array Field} {fuel : Nat} {vs : List Value} {y : DataW H × List MemPlace} (hs : P.underlying t = some (.struct fs)) (h : DataW.trod enc P w base spare held fuel t vs = some y) (i : Nat) {f : Field} (hi : fs[i]? = some f)
    {o k : Nat} (ho : f.offset = o) (hk : P.cellsOf f.type = k) : ∃ m z, DataW.trod enc P w base spare held m f.type ((vs.drop o).take k) = some z ∧ ∃ l, y.1 = .agg l ∧ z.1 ∈ l := by
  obtain ⟨ys, m, _, hx, _, hlen, hg⟩ := DataW.trod_struct hs h
  have hlt : i < ys.length := by rw [hlen]; exact (Array.getElem?_eq_some_iff.1 hi).1
  have := hg i f hi
  rw [ho, hk, List.getElem?_eq_getElem hlt] at this
  exact ⟨m, _, this, ys.map (·.1), by rw [hx], List.mem_map.2 ⟨_, List.getElem_mem hlt, rfl⟩⟩
end
end Go.Proofs.YtfdedkcidemimaaDoor
namespace Go.Proofs.YtfdedkcidemimaaDoor
set_option linter.unusedVariables false
open Go.ChangeShapes Go.WideShapes Go.ChangeAt Go.RowKit

theorem run_copy_rowK {P : Program} (w : World) (dT sT ty elem : TypeId) (g dCap : Nat) (a : Addr) (n sCap k : Nat) (cur : Array Value) (t : TypeId) (cs : List Value)
    (hu : P.underlying dT = some (.slice elem)) (hs : (P.info? elem).map (·.size) = some k)
    (hg : w.heap[g]? = some (.cells cur t (0, 0))) (hn : cs.length = n * k)
    (hsrc : ∀ j v, cs[j]? = some v → w.cell? (a.add j) = some v) (hfit : cs.length = cur.size) (h1 : ∀ v ∈ cs, v.oneCell' = true) :
    (Builtin.copy_ #[dT, sT] ty #[.slice (some ⟨g, 0, none⟩) n dCap, .slice (some a) n sCap]).run P w =
      .ok (goInt n) (w.setRow g cs.toArray) := by
  have hl := run_loadCells_list (P := P) w a cs hsrc
  have hst := run_storeCells_at P g 0 t cs 0 cur w hg (by simpa using Nat.le_of_eq hfit) h1
  rw [hn] at hl
  cases hq : P.info? elem with
  | none => simp [hq] at hs
  | some i =>
    have hi : i.size = k := by simpa [hq] using hs
    have e : cs ++ List.drop cs.length cur.toList = cs := by rw [List.drop_of_length_le (by rw [Array.length_toList]; omega), List.append_nil]
    simp [Builtin.copy_, run_underlying hu, Builtin.lenOf, Builtin.firstCells, sizeOf, typeInfo, hq, hi, hl, hst, e]
/-- A whole copy into a new row. -/
theorem wpList_copy_row {P : Program} {w : World} {ops : Array Oper} {rest : List Oper} {o : Oper} {a : Act} {Q : Exit → Act → World → Prop} (hgd : o.guard = none) (d s : Operand) (dT sT : TypeId)
    (ho : o.op = .call { callee := .builtin .copy, args := #[d, s], argTypes := #[dT, sT] }) (elem : TypeId) (k : Nat) (hu : P.underlying dT = some (.slice elem)) (hsz : (P.info? elem).map (·.size) = some k)
    (base g n sCap : Nat) (ad : Addr) (xs cs : List Value) (hd : a.eval d = .slice (some ⟨g, 0, none⟩) n n) (hs : a.eval s = .slice (some ad) n sCap)
    (hown : w.ownsRow base elem k (.slice (some ⟨g, 0, none⟩) n n) n xs) (hn : cs.length = n * k)
    (hsrc : ∀ j v, cs[j]? = some v → w.cell? (ad.add j) = some v) (h1 : ∀ v ∈ cs, v.oneCell' = true)
    (h : ∀ w', w'.ownsRow base elem k (.slice (some ⟨g, 0, none⟩) n n) n cs → Below g w w' → w'.heap.size = w.heap.size → wpList P ops Q rest (a.put o.dst (goInt n)) w') : wpList P ops Q (o :: rest) a w := by
  rcases hown.2 with ⟨hv, _⟩ | ⟨g', cap, cur, hv, hb, hg, hnc, hm, hcz, htk⟩
  · injection hv with h0 _ _
    cases h0
  · injection hv with h0 _ h3
    injection h0 with h0
    injection h0 with h0 _ _
    subst h0 h3
    refine wpList_plain hgd fun K hK => ?_
    have hrun := run_copy_rowK (P := P) w dT sT o.type elem g n ad n sCap k cur elem cs hu hsz hg hn hsrc (by rw [hn, hcz]) h1
    unfold Oper.wp
    simp [execOp, ho, resolve, invoke, builtin, hd, hs, hrun, Result.andThen]
    refine hK _ _ (h _ ⟨hn, .inr ⟨g, n, cs.toArray, rfl, hb, setRow_heap w g cur _ elem _ hg, Nat.le_refl _, hm, by rw [List.size_toArray, hn], ?_⟩⟩ ⟨rfl, rfl, rfl, by simp [World.setRow], fun j hj => setRow_other w g j _ (by omega)⟩ (by simp [World.setRow]))
    rw [List.toList_toArray]
    exact List.take_of_length_le (by omega)
end Go.Proofs.YtfdedkcidemimaaDoor
namespace Go.Proofs.YtfdedkcidemimaaDoor
set_option linter.unusedVariables false
open Go.ChangeShapes Go.WideShapes Go.ChangeAt Go.RowKit

structure ListV where
  A : Option Addr
  n : Nat
  c : Nat
def listVal (l : ListV) : List Value := [.slice l.A l.n l.c]
theorem listVal_len (l : ListV) : (listVal l).length = 1 := rfl
theorem listVal_flat (ls : List ListV) : (ls.map listVal).flatten = ls.map fun l => .slice l.A l.n l.c := by
  induction ls with
  | nil => rfl
  | cons l r ih => rw [List.map_cons, List.flatten_cons, ih]; rfl
structure NestAt {α : Type} (f : α → List Value) (k : Nat) (w : World) (B : Nat) (A : Option Addr) (n c : Nat) (rows : List (List α)) : Prop where
  len : rows.length = n
  cap : n ≤ c
  max : c ≤ maxLen
  nil : A = none → n = 0
  each : ∃ ls : List ListV, ls.length = n ∧ Recs w B A 1 (ls.map listVal) ∧ ∀ (i : Nat) m r, ls[i]? = some m → rows[i]? = some r → SlAt f k w B m.A m.n m.c r
section
variable {α : Type} {f : α → List Value} {k : Nat} {w w' : World} {B B' n c : Nat} {A : Option Addr} {rows : List (List α)}
theorem NestAt.below (h : NestAt f k w B A n c rows) (hb : Below B w w') : NestAt f k w' B A n c rows :=
  let ⟨ls, h1, h2, h3⟩ := h.each
  ⟨h.len, h.cap, h.max, h.nil, ls, h1, h2.below hb, fun i m cs g1 g2 => (h3 i m cs g1 g2).below hb⟩
theorem NestAt.more (h : NestAt f k w B A n c rows) (hb : B ≤ B') : NestAt f k w B' A n c rows :=
  let ⟨ls, h1, h2, h3⟩ := h.each
  ⟨h.len, h.cap, h.max, h.nil, ls, h1, h2.more hb, fun i m cs g1 g2 => (h3 i m cs g1 g2).more hb⟩
theorem NestAt.kept (h : NestAt f k w w.heap.size A n c rows) (hb : Below w.heap.size w w') : NestAt f k w' w'.heap.size A n c rows := (h.below hb).more hb.size
theorem NestAt.empty (f : α → List Value) (k : Nat) (w : World) (B : Nat) : NestAt f k w B none 0 0 [] := ⟨rfl, Nat.le_refl _, Nat.zero_le _, fun _ => rfl, [], rfl, ⟨by simp, Cells.none _ _ _⟩, by simp⟩
theorem NestAt.one (h : NestAt f k w B A n c rows) {i : Nat} (hi : i < n) :
    ∃ b off A1 n1 c1 r, A = some ⟨b, off, none⟩ ∧ b < B ∧ rows[i]? = some r ∧ w.cell? ⟨b, off + i, none⟩ = some (.slice A1 n1 c1) ∧ SlAt f k w B A1 n1 c1 r := by
  have hl2 := h.len
  obtain ⟨ls, hl, hr, hea⟩ := h.each
  obtain ⟨b, off, e, hlt, hc⟩ := hr.at (by omega) (by rw [List.length_map]; omega)
  have h1 : ls[i]? = some (ls[i]'(by omega)) := List.getElem?_eq_getElem (by omega)
  have h2 : rows[i]? = some (rows[i]'(by omega)) := List.getElem?_eq_getElem (by omega)
  have hx : (ls.map listVal)[i]? = some (listVal (ls[i]'(by omega))) := by rw [List.getElem?_map, h1]; rfl
  have := hc i _ 0 _ hx rfl
  rw [Nat.mul_one, Nat.add_zero] at this
  exact ⟨b, off, _, _, _, _, e, hlt, h2, this, hea i _ _ h1 h2⟩
/-- A row of the call's own that holds slices is a slice of slices. -/
theorem nest_of_own {base : Nat} {e : TypeId} {v : Value} {ls : List ListV} (h : w.ownsRow base e 1 v ls.length (ls.map listVal).flatten) (hl : rows.length = ls.length)
    (he : ∀ (i : Nat) m r, ls[i]? = some m → rows[i]? = some r → SlAt f k w w.heap.size m.A m.n m.c r) : ∃ A c, v = .slice A ls.length c ∧ NestAt f k w w.heap.size A ls.length c rows := by
  obtain ⟨A, c, rfl, hnc, hA, hC⟩ := own_form h
  exact ⟨A, c, rfl, hl, hnc, own_max h, hA, ls, rfl, ⟨by intro xs hx; obtain ⟨m, _, rfl⟩ := List.mem_map.1 hx; rfl, hC⟩, he⟩
theorem SlAt.set {l : List α} (h : SlAt f k w B A n c l) {p : Addr} (hne : FreshA (p.block + 1) A) (u : Value) : SlAt f k (w.setCell p u) B A n c l := ⟨h.len, h.cap, h.max, h.nil, ⟨h.recs.1, h.recs.2.set hne u⟩⟩
end
end Go.Proofs.YtfdedkcidemimaaDoor
namespace Go.Proofs.YtfdedkcidemimaaDoor
set_option linter.unusedVariables false
open Go.ChangeShapes Go.WideShapes Go.ChangeAt Go.RowKit

theorem str_take (s : ByteArray) (k : Nat) (h : k < s.size) : s.data.toList.take (k + 1) = s.data.toList.take k ++ [s[k]] := by
  rw [List.take_succ_eq_append_getElem (by simpa using h)]; rfl
theorem str_len (s : ByteArray) : s.data.toList.length = s.size := by rw [Array.length_toList]; rfl
def stepU (z : Int) (c : UInt8) : Int := bits BinOp.or IntKind.u64 (IntKind.u64.wrap (z * 256)) (IntKind.u64.wrap c.toNat)
def byteAt (s : ByteArray) (i : Nat) : UInt8 := if h : i < s.size then s[i] else 0
def numU (s : ByteArray) (at' : Int) : Nat → Int
  | 0 => 0
  | k + 1 => stepU (numU s at' k) (byteAt s (at' + k).toNat)
def getP (s : ByteArray) (at' size : Int) : Int × Bool := if 1 ≤ size ∧ size ≤ 8 ∧ 0 ≤ at' ∧ at' + size ≤ s.size then (wrap64 (numU s at' size.toNat), true) else (0, false)
theorem byteAt_in {s : ByteArray} {i : Nat} (h : i < s.size) : byteAt s i = s[i] := dif_pos h
theorem ret_xb {a b : Int} {c d : Bool} (h : (a, c) = (b, d)) : Ending.returned (.tuple #[.int .i64 a, .bool c]) = Ending.returned (.tuple #[.int .i64 b, .bool d]) := by cases h; rfl
def thereB (s : ByteArray) (a z : Int) : Bool := decide (0 ≤ a) && decide (0 ≤ z) && decide (a ≤ s.size) && decide (z ≤ s.size - a)
theorem there_c (s : ByteArray) (a z : Int) (hm : s.size ≤ 9223372036854775807) (ha : -9223372036854775808 ≤ a) (w : World) : Calls Tryd.prog 80 #[.string s, .int .i64 a, .int .i64 z] w fun e w' => e = .returned (.bool (thereB s a z)) ∧ w = w' := by
  unfold thereB
  rcases (show a < 0 ∨ (0 ≤ a ∧ z < 0) ∨ (0 ≤ a ∧ 0 ≤ z ∧ (s.size : Int) < a) ∨ (0 ≤ a ∧ 0 ≤ z ∧ a ≤ (s.size : Int)) by omega) with h | ⟨h1, h⟩ | ⟨h1, h2, h⟩ | ⟨h1, h2, h⟩
  all_goals
    go_enter Tryd.func80, Tryd.ntmps80
    go_wp2
    go_ret
    refine ⟨ret_bool ?_, rfl⟩
    rw [Bool.eq_iff_iff]
    simp
    try omega
set_option maxRecDepth 100000 in
theorem get_yes (s : ByteArray) (at' size : Int) (h1 : 1 ≤ size) (h8 : size ≤ 8) (h0 : 0 ≤ at') (h : at' + size ≤ s.size) (hm : s.size ≤ 9223372036854775807) (w : World) :
    Calls Tryd.prog 70 #[.string s, .int .i64 at', .int .i64 size] w fun e w' => e = .returned (.tuple #[.int .i64 (wrap64 (numU s at' size.toNat)), .bool true]) ∧ w = w' := by
  have h2 : at' ≤ s.size := by omega
  have h3 : size ≤ s.size - at' := by omega
  go_enter Tryd.func70, Tryd.ntmps70
  go_wp2
  go_loop [8, 9] (fun n i => ∃ k : Nat, (k : Int) ≤ size ∧ i = .int .i64 (at' + k) ∧ n = .int .u64 (numU s at' k)) (fun _ i => (at' + size - intOf i).toNat)
  case atStart => exact ⟨0, by omega, by simp, rfl⟩
  case round =>
    obtain ⟨k, hk, rfl, rfl⟩ := hrel
    by_cases hlt : (k : Int) < size
    · have hi : (at' + k).toNat < s.size := by omega
      have hst : numU s at' (k + 1) = stepU (numU s at' k) s[(at' + k).toNat] := by rw [numU, byteAt_in hi]
      generalize numU s at' k = z at *
      generalize hn : numU s at' (k + 1) = z2 at *
      have HS := hide hst
      have HN := hide hn
      clear hst hn
      go_wp2
      go_round
      case rel =>
        refine ⟨k + 1, by omega, by go_num, ?_⟩
        rw [HN.out, HS.out]
        rfl
      case measure => simp [intOf]; omega
    · have e : size.toNat = k := by omega
      generalize hz : numU s at' k = z at *
      have HZ := hide hz
      clear hz
      go_wp2
      go_ret2
      exact ⟨ret_xb (by rw [HZ.out]), rfl⟩
set_option maxRecDepth 100000 in
theorem rget_yes (s : ByteArray) (at' size : Int) (h1 : 1 ≤ size) (h8 : size ≤ 8) (h0 : 0 ≤ at') (h : at' + size ≤ s.size) (hm : s.size ≤ 9223372036854775807) (w : World) :
    Calls Tryd.prog 78 #[.string s, .int .i64 at', .int .i64 size] w fun e w' => e = .returned (.tuple #[.int .i64 (wrap64 (numU s at' size.toNat)), .bool true]) ∧ w = w' := by
  have HT : Hid (thereB s at' size = true) := by show thereB _ _ _ = true; unfold thereB; simp; omega
  go_enter Tryd.func78, Tryd.ntmps78
  go_wp2_with (first | (go_at_call 80; refine (there_c _ _ _ (by omega) (by omega) _).mono ?_; rw [HT.out]; rintro e w' ⟨rfl, rfl⟩))
  go_loop [8, 9] (fun n i => ∃ k : Nat, (k : Int) ≤ size ∧ i = .int .i64 k ∧ n = .int .u64 (numU s at' k)) (fun _ i => (size - intOf i).toNat)
  case atStart => exact ⟨0, by omega, by simp, rfl⟩
  case round =>
    obtain ⟨k, hk, rfl, rfl⟩ := hrel
    by_cases hlt : (k : Int) < size
    · have hi : (at' + k).toNat < s.size := by omega
      have hst : numU s at' (k + 1) = stepU (numU s at' k) s[(at' + k).toNat] := by rw [numU, byteAt_in hi]
      generalize numU s at' k = z at *
      generalize hn : numU s at' (k + 1) = z2 at *
      have HS := hide hst
      have HN := hide hn
      clear hst hn
      go_wp2
      go_round
      case rel =>
        refine ⟨k + 1, by omega, by go_num, ?_⟩
        rw [HN.out, HS.out]
        rfl
      case measure => simp [intOf]; omega
    · have e : size.toNat = k := by omega
      generalize hz : numU s at' k = z at *
      have HZ := hide hz
      clear hz
      go_wp2
      go_ret2
      exact ⟨ret_xb (by rw [HZ.out]), rfl⟩
theorem not_cases {n a z : Int} (hn : 0 ≤ n) (h : ¬ (1 ≤ z ∧ z ≤ 8 ∧ 0 ≤ a ∧ a + z ≤ n)) : z < 1 ∨ (1 ≤ z ∧ 8 < z) ∨ (1 ≤ z ∧ z ≤ 8 ∧ a < 0) ∨ (1 ≤ z ∧ z ≤ 8 ∧ 0 ≤ a ∧ n < a) ∨ (1 ≤ z ∧ z ≤ 8 ∧ 0 ≤ a ∧ a ≤ n ∧ n - a < z) := by omega
theorem get_no (s : ByteArray) (at' size : Int) (hn : ¬ (1 ≤ size ∧ size ≤ 8 ∧ 0 ≤ at' ∧ at' + size ≤ s.size)) (hm : s.size ≤ 9223372036854775807) (w : World) :
    Calls Tryd.prog 70 #[.string s, .int .i64 at', .int .i64 size] w fun e w' => e = .returned (.tuple #[.int .i64 0, .bool false]) ∧ w = w' := by
  rcases not_cases (by omega) hn with h | ⟨h1, h⟩ | ⟨h1, h2, h⟩ | ⟨h1, h2, h3, h⟩ | ⟨h1, h2, h3, h4, h⟩
  all_goals
    clear hn
    go_enter Tryd.func70, Tryd.ntmps70
    go_wp2
    go_ret2
    exact ⟨rfl, rfl⟩
theorem rget_no (s : ByteArray) (at' size : Int) (hn : ¬ (1 ≤ size ∧ size ≤ 8 ∧ 0 ≤ at' ∧ at' + size ≤ s.size)) (hm : s.size ≤ 9223372036854775807) (ha : -9223372036854775808 ≤ at') (w : World) :
    Calls Tryd.prog 78 #[.string s, .int .i64 at', .int .i64 size] w fun e w' => e = .returned (.tuple #[.int .i64 0, .bool false]) ∧ w = w' := by
  rcases not_cases (by omega) hn with h | ⟨h1, h⟩ | ⟨h1, h2, h⟩ | ⟨h1, h2, h3, h⟩ | ⟨h1, h2, h3, h4, h⟩
  all_goals
    clear hn
    try (have HT : Hid (thereB s at' size = false) := by show thereB _ _ _ = false; unfold thereB; simp; omega)
    go_enter Tryd.func78, Tryd.ntmps78
    go_wp2_with (first | (go_at_call 80; refine (there_c _ _ _ (by omega) (by omega) _).mono ?_; rw [HT.out]; rintro e w' ⟨rfl, rfl⟩))
    go_ret2
    exact ⟨rfl, rfl⟩
theorem get_c (s : ByteArray) (at' size : Int) (hm : s.size ≤ 9223372036854775807) (w : World) :
    Calls Tryd.prog 70 #[.string s, .int .i64 at', .int .i64 size] w fun e w' => e = .returned (.tuple #[.int .i64 (getP s at' size).1, .bool (getP s at' size).2]) ∧ w = w' := by
  unfold getP
  by_cases h : 1 ≤ size ∧ size ≤ 8 ∧ 0 ≤ at' ∧ at' + size ≤ s.size
  · rw [if_pos h]
    exact get_yes s at' size h.1 h.2.1 h.2.2.1 h.2.2.2 hm w
  · rw [if_neg h]
    exact get_no s at' size h hm w
theorem rget_c (s : ByteArray) (at' size : Int) (hm : s.size ≤ 9223372036854775807) (ha : -9223372036854775808 ≤ at') (w : World) :
    Calls Tryd.prog 78 #[.string s, .int .i64 at', .int .i64 size] w fun e w' => e = .returned (.tuple #[.int .i64 (getP s at' size).1, .bool (getP s at' size).2]) ∧ w = w' := by
  unfold getP
  by_cases h : 1 ≤ size ∧ size ≤ 8 ∧ 0 ≤ at' ∧ at' + size ≤ s.size
  · rw [if_pos h]
    exact rget_yes s at' size h.1 h.2.1 h.2.2.1 h.2.2.2 hm w
  · rw [if_neg h]
    exact rget_no s at' size h hm ha w
end Go.Proofs.YtfdedkcidemimaaDoor
namespace Go.Proofs.YtfdedkcidemimaaDoor
set_option linter.unusedVariables false
open Go.ChangeShapes Go.WideShapes Go.ChangeAt Go.RowKit

def crcTab : List Int := [0x00000000, 0x1db71064, 0x3b6e20c8, 0x26d930ac, 0x76dc4190, 0x6b6b51f4, 0x4db26158, 0x5005713c, 0xedb88320, 0xf00f9344, 0xd6d6a3e8, 0xcb61b38c, 0x9b64c2b0, 0x86d3d2d4, 0xa00ae278, 0xbdbdf21c]
def tabAt (i : Int) : Int := crcTab.getD i.toNat 0
def nib (c : Int) : Int := bits BinOp.and IntKind.u32 c 15
def xin (z : Int) (c : UInt8) : Int := bits BinOp.xor IntKind.u32 z ((c.toNat : Int) % 4294967296)
def xup (y : Int) : Int := bits BinOp.xor IntKind.u32 (y / 16) (tabAt (nib y))
def stepS (z : Int) (c : UInt8) : Int := xup (xup (xin z c))
def sumL (l : List UInt8) : Int := l.foldl stepS 4294967295
theorem bits_and15 (c : Int) : 0 ≤ nib c ∧ nib c < 16 := by
  have h : (BitVec.ofInt 32 c &&& BitVec.ofInt 32 15).toNat ≤ 15 := by rw [BitVec.toNat_and]; exact Nat.and_le_right
  have e : nib c = IntKind.wrap .u32 ((BitVec.ofInt 32 c &&& BitVec.ofInt 32 15).toNat : Int) := rfl
  rw [e]
  generalize (BitVec.ofInt 32 c &&& BitVec.ofInt 32 15).toNat = n at *
  have e2 : IntKind.wrap .u32 (n : Int) = n := by
    unfold IntKind.wrap
    simp [IntKind.bits, IntKind.signed]
    omega
  rw [e2]
  omega
/-- What the walk is told of the table. -/
def TabW (w : World) : Prop := ∀ j : Nat, j < 16 → w.cell? ⟨0, j, none⟩ = some (.int .u32 (tabAt j))
theorem TabW.at {w : World} (h : TabW w) (y : Int) : w.cell? ⟨0, (nib y).toNat, none⟩ = some (.int .u32 (tabAt (nib y))) := by
  have hb := bits_and15 y
  have := h (nib y).toNat (by omega)
  rw [Int.toNat_of_nonneg hb.1] at this
  exact this
theorem sum_take (s : ByteArray) (k : Nat) (h : k < s.size) : sumL (s.data.toList.take (k + 1)) = stepS (sumL (s.data.toList.take k)) s[k] := by
  rw [str_take s k h]
  unfold sumL
  rw [List.foldl_append]
  rfl
def sumP (s : ByteArray) : Int := wrap64 (bits BinOp.xor IntKind.u32 IntKind.u32.max (sumL s.data.toList))
set_option maxHeartbeats 1000000 in
theorem sum_c (s : ByteArray) (hm : s.size ≤ 9223372036854775807) (w : World) (hT : TabW w) :
    Calls Tryd.prog 72 #[.string s] w fun e w' => e = .returned (.int .i64 (sumP s)) ∧ w = w' := by
  have HT := hide hT
  clear hT
  go_enter Tryd.func72, Tryd.ntmps72
  go_wp2
  go_loop [3, 4] (fun n i => ∃ k : Nat, k ≤ s.size ∧ i = .int .i64 k ∧ n = .int .u32 (sumL (s.data.toList.take k))) (fun _ i => s.size - (intOf i).toNat)
  case atStart => exact ⟨0, Nat.zero_le _, rfl, rfl⟩
  case round =>
    obtain ⟨k, hk, rfl, rfl⟩ := hrel
    by_cases hlt : k < s.size
    · have hst := sum_take s k hlt
      generalize sumL (s.data.toList.take k) = z at *
      generalize hn : sumL (s.data.toList.take (k + 1)) = z4 at *
      unfold stepS at hst
      generalize hx : xin z s[k] = x at *
      have c1 := HT.out.at x
      have b1 := bits_and15 x
      generalize hy : xup x = y at *
      have c2 := HT.out.at y
      have b2 := bits_and15 y
      unfold xin at hx
      unfold xup at hy hst
      generalize hi1 : nib x = i1 at *
      generalize hi2 : nib y = i2 at *
      generalize tabAt i1 = t1 at *
      generalize tabAt i2 = t2 at *
      unfold nib at hi1 hi2
      have HN := hide hn
      clear hn
      replace hst := hst.symm
      go_wp2
      go_round
      case rel =>
        refine ⟨k + 1, by omega, by go_num, ?_⟩
        rw [HN.out]
      case measure => simp [intOf]; omega
    · have e : s.data.toList.take k = s.data.toList := List.take_of_length_le (by rw [str_len]; omega)
      generalize hz : sumL (s.data.toList.take k) = z at *
      have hsg : IntKind.u32.signed = false := rfl
      have HZ := hide hz
      clear hz
      go_wp2
      go_ret
      refine ⟨ret_int ?_, rfl⟩
      unfold sumP
      rw [← e, HZ.out]
end Go.Proofs.YtfdedkcidemimaaDoor
namespace Go.Proofs.YtfdedkcidemimaaDoor
set_option linter.unusedVariables false
open Go.ChangeShapes Go.WideShapes Go.ChangeAt Go.RowKit

def putL (n : Int) : Nat → List Int
  | 0 => []
  | k + 1 => putL (n / 256) k ++ [n % 256]
theorem conv_c (w : World) (xs : List Int) (t : TypeId) : (convert 40 9 (.slice (some ⟨w.heap.size, 0, none⟩) xs.length xs.length)).run Tryd.prog (w.alloc (.cells (xs.map (Value.int .u8)).toArray t)) = .ok (.string (strOfNums xs)) (w.alloc (.cells (xs.map (Value.int .u8)).toArray t)) := by
  refine run_convert_bytes_arg (w.alloc (.cells (xs.map (Value.int .u8)).toArray t)) 40 5 Tryd.underlying40 Tryd.underlying5 w.heap.size 0 xs.length xs.length xs rfl ?_ 9 Tryd.underlying9
  intro i hi
  have h := cell_of_row (w.alloc (.cells (xs.map (Value.int .u8)).toArray t)) w.heap.size i _ _ _ (heap_alloc_new w _)
  rw [Nat.zero_add]
  refine h.trans ?_
  simp [List.getD, hi]
theorem put1 (n : Int) (w : World) :
    Calls Tryd.prog 61 #[.int .i64 n, .int .i64 1] w fun e w' => e = .returned (.string (strOfNums (putL n 1))) ∧ Below w.heap.size w w' := by
  have hmk : ∀ w, (Instr.makeSlice 40 (.int .i64 1) (.int .i64 1)).run Tryd.prog w = .ok (.slice (some ⟨w.heap.size, 0, none⟩) 1 1) (w.alloc (.cells #[.int .u8 0] 5)) := fun _ => by kernel_rfl
  have hcv : (convert 40 9 (.slice (some ⟨w.heap.size, 0, none⟩) 1 1)).run Tryd.prog (w.alloc (.cells #[.int .u8 (n % 256)] 5)) = .ok (.string (strOfNums (putL n 1))) (w.alloc (.cells #[.int .u8 (n % 256)] 5)) := conv_c w [n % 256] 5
  generalize strOfNums (putL n 1) = s at *
  go_enter Tryd.func61, Tryd.ntmps61
  go_wp2
  go_rounds 2
  go_ret
  exact ⟨rfl, Bel.one _ _⟩
theorem put2 (n : Int) (w : World) :
    Calls Tryd.prog 61 #[.int .i64 n, .int .i64 2] w fun e w' => e = .returned (.string (strOfNums (putL n 2))) ∧ Below w.heap.size w w' := by
  have hmk : ∀ w, (Instr.makeSlice 40 (.int .i64 2) (.int .i64 2)).run Tryd.prog w = .ok (.slice (some ⟨w.heap.size, 0, none⟩) 2 2) (w.alloc (.cells #[.int .u8 0, .int .u8 0] 5)) := fun _ => by kernel_rfl
  have hcv : (convert 40 9 (.slice (some ⟨w.heap.size, 0, none⟩) 2 2)).run Tryd.prog (w.alloc (.cells #[.int .u8 (n / 256 % 256), .int .u8 (n % 256)] 5)) = .ok (.string (strOfNums (putL n 2))) (w.alloc (.cells #[.int .u8 (n / 256 % 256), .int .u8 (n % 256)] 5)) := conv_c w [n / 256 % 256, n % 256] 5
  generalize strOfNums (putL n 2) = s at *
  go_enter Tryd.func61, Tryd.ntmps61
  go_wp2
  go_rounds 3
  go_ret
  exact ⟨rfl, Bel.one _ _⟩
theorem put3 (n : Int) (w : World) :
    Calls Tryd.prog 61 #[.int .i64 n, .int .i64 3] w fun e w' => e = .returned (.string (strOfNums (putL n 3))) ∧ Below w.heap.size w w' := by
  have hmk : ∀ w, (Instr.makeSlice 40 (.int .i64 3) (.int .i64 3)).run Tryd.prog w = .ok (.slice (some ⟨w.heap.size, 0, none⟩) 3 3) (w.alloc (.cells #[.int .u8 0, .int .u8 0, .int .u8 0] 5)) := fun _ => by kernel_rfl
  have hcv : (convert 40 9 (.slice (some ⟨w.heap.size, 0, none⟩) 3 3)).run Tryd.prog (w.alloc (.cells #[.int .u8 (n / 256 / 256 % 256), .int .u8 (n / 256 % 256), .int .u8 (n % 256)] 5)) = .ok (.string (strOfNums (putL n 3))) (w.alloc (.cells #[.int .u8 (n / 256 / 256 % 256), .int .u8 (n / 256 % 256), .int .u8 (n % 256)] 5)) := conv_c w [n / 256 / 256 % 256, n / 256 % 256, n % 256] 5
  generalize strOfNums (putL n 3) = s at *
  go_enter Tryd.func61, Tryd.ntmps61
  go_wp2
  go_rounds 4
  go_ret
  exact ⟨rfl, Bel.one _ _⟩
theorem put4 (n : Int) (w : World) :
    Calls Tryd.prog 61 #[.int .i64 n, .int .i64 4] w fun e w' => e = .returned (.string (strOfNums (putL n 4))) ∧ Below w.heap.size w w' := by
  have hmk : ∀ w, (Instr.makeSlice 40 (.int .i64 4) (.int .i64 4)).run Tryd.prog w = .ok (.slice (some ⟨w.heap.size, 0, none⟩) 4 4) (w.alloc (.cells #[.int .u8 0, .int .u8 0, .int .u8 0, .int .u8 0] 5)) := fun _ => by kernel_rfl
  have hcv : (convert 40 9 (.slice (some ⟨w.heap.size, 0, none⟩) 4 4)).run Tryd.prog (w.alloc (.cells #[.int .u8 (n / 256 / 256 / 256 % 256), .int .u8 (n / 256 / 256 % 256), .int .u8 (n / 256 % 256), .int .u8 (n % 256)] 5)) = .ok (.string (strOfNums (putL n 4))) (w.alloc (.cells #[.int .u8 (n / 256 / 256 / 256 % 256), .int .u8 (n / 256 / 256 % 256), .int .u8 (n / 256 % 256), .int .u8 (n % 256)] 5)) := conv_c w [n / 256 / 256 / 256 % 256, n / 256 / 256 % 256, n / 256 % 256, n % 256] 5
  generalize strOfNums (putL n 4) = s at *
  go_enter Tryd.func61, Tryd.ntmps61
  go_wp2
  go_rounds 5
  go_ret
  exact ⟨rfl, Bel.one _ _⟩
theorem put5 (n : Int) (w : World) :
    Calls Tryd.prog 61 #[.int .i64 n, .int .i64 5] w fun e w' => e = .returned (.string (strOfNums (putL n 5))) ∧ Below w.heap.size w w' := by
  have hmk : ∀ w, (Instr.makeSlice 40 (.int .i64 5) (.int .i64 5)).run Tryd.prog w = .ok (.slice (some ⟨w.heap.size, 0, none⟩) 5 5) (w.alloc (.cells #[.int .u8 0, .int .u8 0, .int .u8 0, .int .u8 0, .int .u8 0] 5)) := fun _ => by kernel_rfl
  have hcv : (convert 40 9 (.slice (some ⟨w.heap.size, 0, none⟩) 5 5)).run Tryd.prog (w.alloc (.cells #[.int .u8 (n / 256 / 256 / 256 / 256 % 256), .int .u8 (n / 256 / 256 / 256 % 256), .int .u8 (n / 256 / 256 % 256), .int .u8 (n / 256 % 256), .int .u8 (n % 256)] 5)) = .ok (.string (strOfNums (putL n 5))) (w.alloc (.cells #[.int .u8 (n / 256 / 256 / 256 / 256 % 256), .int .u8 (n / 256 / 256 / 256 % 256), .int .u8 (n / 256 / 256 % 256), .int .u8 (n / 256 % 256), .int .u8 (n % 256)] 5)) := conv_c w [n / 256 / 256 / 256 / 256 % 256, n / 256 / 256 / 256 % 256, n / 256 / 256 % 256, n / 256 % 256, n % 256] 5
  generalize strOfNums (putL n 5) = s at *
  go_enter Tryd.func61, Tryd.ntmps61
  go_wp2
  go_rounds 6
  go_ret
  exact ⟨rfl, Bel.one _ _⟩
theorem put6 (n : Int) (w : World) :
    Calls Tryd.prog 61 #[.int .i64 n, .int .i64 6] w fun e w' => e = .returned (.string (strOfNums (putL n 6))) ∧ Below w.heap.size w w' := by
  have hmk : ∀ w, (Instr.makeSlice 40 (.int .i64 6) (.int .i64 6)).run Tryd.prog w = .ok (.slice (some ⟨w.heap.size, 0, none⟩) 6 6) (w.alloc (.cells #[.int .u8 0, .int .u8 0, .int .u8 0, .int .u8 0, .int .u8 0, .int .u8 0] 5)) := fun _ => by kernel_rfl
  have hcv : (convert 40 9 (.slice (some ⟨w.heap.size, 0, none⟩) 6 6)).run Tryd.prog (w.alloc (.cells #[.int .u8 (n / 256 / 256 / 256 / 256 / 256 % 256), .int .u8 (n / 256 / 256 / 256 / 256 % 256), .int .u8 (n / 256 / 256 / 256 % 256), .int .u8 (n / 256 / 256 % 256), .int .u8 (n / 256 % 256), .int .u8 (n % 256)] 5)) = .ok (.string (strOfNums (putL n 6))) (w.alloc (.cells #[.int .u8 (n / 256 / 256 / 256 / 256 / 256 % 256), .int .u8 (n / 256 / 256 / 256 / 256 % 256), .int .u8 (n / 256 / 256 / 256 % 256), .int .u8 (n / 256 / 256 % 256), .int .u8 (n / 256 % 256), .int .u8 (n % 256)] 5)) := conv_c w [n / 256 / 256 / 256 / 256 / 256 % 256, n / 256 / 256 / 256 / 256 % 256, n / 256 / 256 / 256 % 256, n / 256 / 256 % 256, n / 256 % 256, n % 256] 5
  generalize strOfNums (putL n 6) = s at *
  go_enter Tryd.func61, Tryd.ntmps61
  go_wp2
  go_rounds 7
  go_ret
  exact ⟨rfl, Bel.one _ _⟩
theorem put7 (n : Int) (w : World) :
    Calls Tryd.prog 61 #[.int .i64 n, .int .i64 7] w fun e w' => e = .returned (.string (strOfNums (putL n 7))) ∧ Below w.heap.size w w' := by
  have hmk : ∀ w, (Instr.makeSlice 40 (.int .i64 7) (.int .i64 7)).run Tryd.prog w = .ok (.slice (some ⟨w.heap.size, 0, none⟩) 7 7) (w.alloc (.cells #[.int .u8 0, .int .u8 0, .int .u8 0, .int .u8 0, .int .u8 0, .int .u8 0, .int .u8 0] 5)) := fun _ => by kernel_rfl
  have hcv : (convert 40 9 (.slice (some ⟨w.heap.size, 0, none⟩) 7 7)).run Tryd.prog (w.alloc (.cells #[.int .u8 (n / 256 / 256 / 256 / 256 / 256 / 256 % 256), .int .u8 (n / 256 / 256 / 256 / 256 / 256 % 256), .int .u8 (n / 256 / 256 / 256 / 256 % 256), .int .u8 (n / 256 / 256 / 256 % 256), .int .u8 (n / 256 / 256 % 256), .int .u8 (n / 256 % 256), .int .u8 (n % 256)] 5)) = .ok (.string (strOfNums (putL n 7))) (w.alloc (.cells #[.int .u8 (n / 256 / 256 / 256 / 256 / 256 / 256 % 256), .int .u8 (n / 256 / 256 / 256 / 256 / 256 % 256), .int .u8 (n / 256 / 256 / 256 / 256 % 256), .int .u8 (n / 256 / 256 / 256 % 256), .int .u8 (n / 256 / 256 % 256), .int .u8 (n / 256 % 256), .int .u8 (n % 256)] 5)) := conv_c w [n / 256 / 256 / 256 / 256 / 256 / 256 % 256, n / 256 / 256 / 256 / 256 / 256 % 256, n / 256 / 256 / 256 / 256 % 256, n / 256 / 256 / 256 % 256, n / 256 / 256 % 256, n / 256 % 256, n % 256] 5
  generalize strOfNums (putL n 7) = s at *
  go_enter Tryd.func61, Tryd.ntmps61
  go_wp2
  go_rounds 8
  go_ret
  exact ⟨rfl, Bel.one _ _⟩
theorem put8 (n : Int) (w : World) :
    Calls Tryd.prog 61 #[.int .i64 n, .int .i64 8] w fun e w' => e = .returned (.string (strOfNums (putL n 8))) ∧ Below w.heap.size w w' := by
  have hmk : ∀ w, (Instr.makeSlice 40 (.int .i64 8) (.int .i64 8)).run Tryd.prog w = .ok (.slice (some ⟨w.heap.size, 0, none⟩) 8 8) (w.alloc (.cells #[.int .u8 0, .int .u8 0, .int .u8 0, .int .u8 0, .int .u8 0, .int .u8 0, .int .u8 0, .int .u8 0] 5)) := fun _ => by kernel_rfl
  have hcv : (convert 40 9 (.slice (some ⟨w.heap.size, 0, none⟩) 8 8)).run Tryd.prog (w.alloc (.cells #[.int .u8 (n / 256 / 256 / 256 / 256 / 256 / 256 / 256 % 256), .int .u8 (n / 256 / 256 / 256 / 256 / 256 / 256 % 256), .int .u8 (n / 256 / 256 / 256 / 256 / 256 % 256), .int .u8 (n / 256 / 256 / 256 / 256 % 256), .int .u8 (n / 256 / 256 / 256 % 256), .int .u8 (n / 256 / 256 % 256), .int .u8 (n / 256 % 256), .int .u8 (n % 256)] 5)) = .ok (.string (strOfNums (putL n 8))) (w.alloc (.cells #[.int .u8 (n / 256 / 256 / 256 / 256 / 256 / 256 / 256 % 256), .int .u8 (n / 256 / 256 / 256 / 256 / 256 / 256 % 256), .int .u8 (n / 256 / 256 / 256 / 256 / 256 % 256), .int .u8 (n / 256 / 256 / 256 / 256 % 256), .int .u8 (n / 256 / 256 / 256 % 256), .int .u8 (n / 256 / 256 % 256), .int .u8 (n / 256 % 256), .int .u8 (n % 256)] 5)) := conv_c w [n / 256 / 256 / 256 / 256 / 256 / 256 / 256 % 256, n / 256 / 256 / 256 / 256 / 256 / 256 % 256, n / 256 / 256 / 256 / 256 / 256 % 256, n / 256 / 256 / 256 / 256 % 256, n / 256 / 256 / 256 % 256, n / 256 / 256 % 256, n / 256 % 256, n % 256] 5
  generalize strOfNums (putL n 8) = s at *
  go_enter Tryd.func61, Tryd.ntmps61
  go_wp2
  go_rounds 9
  go_ret
  exact ⟨rfl, Bel.one _ _⟩
end Go.Proofs.YtfdedkcidemimaaDoor
namespace Go.Proofs.YtfdedkcidemimaaDoor
set_option linter.unusedVariables false
open Go.ChangeShapes Go.WideShapes Go.ChangeAt Go.RowKit

theorem putL_len : ∀ (k : Nat) (n : Int), (putL n k).length = k
  | 0, _ => rfl
  | k + 1, n => by rw [putL, List.length_append, putL_len k]; rfl
theorem strOf_size (l : List Int) : (strOfNums l).size = l.length := by
  show (strOfNums l).data.size = l.length
  simp [strOfNums]
def sealP (s : ByteArray) : ByteArray := strOfNums (putL (sumP s) 4) ++ s
theorem ret_str {s t : ByteArray} (h : s = t) : Ending.returned (.string s) = Ending.returned (.string t) := by rw [h]
theorem seal_c (s : ByteArray) (hs : s.size ≤ 8388608) (w : World) (hT : TabW w) :
    Calls Tryd.prog 56 #[.string s] w fun e w' => e = .returned (.string (sealP s)) ∧ Below w.heap.size w w' := by
  have HT := hide hT
  clear hT
  have q1 := fun W => sum_c s (by omega) W
  have q2 := fun W => put4 (sumP s) W
  have hz : ((strOfNums (putL (sumP s) 4)).size : Int) ≤ 8388608 := by rw [strOf_size, putL_len]; omega
  have hs2 : (s.size : Int) ≤ 8388608 := by omega
  have e : sealP s = strOfNums (putL (sumP s) 4) ++ s := rfl
  generalize strOfNums (putL (sumP s) 4) = x at *
  generalize sumP s = n at *
  have Q1 := hide q1
  have Q2 := hide q2
  have E := hide e
  clear q1 q2 e
  go_enter Tryd.func56, Tryd.ntmps56
  go_wp2_with fail
  refine (Q1.out _ HT.out).mono ?_
  rintro e w' ⟨rfl, rfl⟩
  go_wp2_with fail
  refine (Q2.out _).mono ?_
  rintro e w' ⟨rfl, hb⟩
  go_wp2_with fail
  go_ret
  exact ⟨ret_str (by rw [E.out]), hb⟩
def putTextP (s : ByteArray) : ByteArray := strOfNums (putL s.size 2) ++ s
theorem ret_sb {s t : ByteArray} {a b : Bool} (h : s = t) (k : a = b) : Ending.returned (.tuple #[.string s, .bool a]) = Ending.returned (.tuple #[.string t, .bool b]) := by rw [h, k]
def openP (t : ByteArray) : ByteArray × Bool := if (getP t 0 4).2 && ((getP t 0 4).1 == sumP (t.extract 4 t.size)) then (t.extract 4 t.size, true) else (⟨#[]⟩, false)
theorem getP_four (t : ByteArray) : (t.size < 4 ∧ (getP t 0 4) = (0, false)) ∨ (4 ≤ t.size ∧ (getP t 0 4).2 = true) := by
  unfold getP
  by_cases h : t.size < 4
  · rw [if_neg (by omega)]; exact .inl ⟨h, rfl⟩
  · rw [if_pos (by omega)]; exact .inr ⟨by omega, rfl⟩
theorem open_c (t : ByteArray) (hm : t.size ≤ 9223372036854775807) (w : World) (hT : TabW w) :
    Calls Tryd.prog 55 #[.string t] w fun e w' => e = .returned (.tuple #[.string (openP t).1, .bool (openP t).2]) ∧ w = w' := by
  have HT := hide hT
  clear hT
  have q1 := fun W => get_c t 0 4 hm W
  have q2 := fun W => sum_c (t.extract 4 t.size) (by rw [ByteArray.size_extract]; omega) W
  have hp : openP t = if (getP t 0 4).2 && ((getP t 0 4).1 == sumP (t.extract 4 t.size)) then (t.extract 4 t.size, true) else (⟨#[]⟩, false) := rfl
  rcases getP_four t with ⟨h, hg⟩ | ⟨h, hg⟩
  · rw [hg] at q1 hp
    rw [hp]
    have Q1 := hide q1
    clear q1 q2 hp hg
    go_enter Tryd.func55, Tryd.ntmps55
    go_wp2_with fail
    refine (Q1.out _).mono ?_
    rintro e w' ⟨rfl, rfl⟩
    go_wp2_with fail
    go_ret2
    exact ⟨rfl, rfl⟩
  · have h4 : (4 : Int) ≤ t.size := by omega
    generalize getP t 0 4 = p at *
    obtain ⟨v, ok⟩ := p
    simp only at hg q1 hp
    subst hg
    generalize sumP (t.extract 4 t.size) = z at *
    cases hv : v == z
    all_goals
      rw [hp, hv]
      have Q1 := hide q1
      have Q2 := hide q2
      clear q1 q2 hp
      go_enter Tryd.func55, Tryd.ntmps55
      go_wp2_with fail
      refine (Q1.out _).mono ?_
      rintro e w' ⟨rfl, rfl⟩
      go_wp2_with fail
      refine (Q2.out _ HT.out).mono ?_
      rintro e w' ⟨rfl, rfl⟩
      go_wp2_with fail
      go_ret2
      exact ⟨rfl, rfl⟩
end Go.Proofs.YtfdedkcidemimaaDoor
namespace Go.Proofs.YtfdedkcidemimaaDoor
set_option linter.unusedVariables false
open Go.ChangeShapes Go.WideShapes Go.ChangeAt Go.RowKit

def low8 (u : Int) : Int := bits BinOp.and IntKind.u64 u 255 % 256
def putU (u : Int) : Nat → List Int
  | 0 => []
  | k + 1 => putU (u / 256) k ++ [low8 u]
def dv (u : Int) : Nat → Int
  | 0 => u
  | k + 1 => dv u k / 256
theorem dv_in : ∀ (k : Nat) (u : Int), dv (u / 256) k = dv u (k + 1)
  | 0, _ => rfl
  | k + 1, u => by rw [dv, dv_in k u]; rfl
theorem putU_front : ∀ (k : Nat) (u : Int), putU u (k + 1) = low8 (dv u k) :: putU u k
  | 0, _ => rfl
  | k + 1, u => by
    rw [putU, putU_front k (u / 256), dv_in]
    rfl
theorem putU_len : ∀ (k : Nat) (u : Int), (putU u k).length = k
  | 0, _ => rfl
  | k + 1, u => by rw [putU, List.length_append, putU_len k]; rfl
theorem strOf_cons (x : Int) (l : List Int) : strOfNums [x] ++ strOfNums l = strOfNums (x :: l) := by
  apply ByteArray.ext
  simp [strOfNums, ByteArray.data_append]
theorem strOf_nil : strOfNums [] = { data := #[] } := rfl
set_option maxHeartbeats 1000000 in
theorem rput_yes (n size : Int) (h0 : 0 ≤ size) (h8 : size ≤ 8) (w : World) :
    Calls Tryd.prog 57 #[.int .i64 n, .int .i64 size] w fun e w' => e = .returned (.string (strOfNums (putU (IntKind.u64.wrap n) size.toNat))) ∧ Below w.heap.size w w' := by
  generalize hu : IntKind.u64.wrap n = u at *
  go_enter Tryd.func57, Tryd.ntmps57
  go_wp2
  go_loopw [5, 6, 7] (fun o v i wr => ∃ k : Nat, (k : Int) ≤ size ∧ i = .int .i64 k ∧ v = .int .u64 (dv u k) ∧ o = .string (strOfNums (putU u k)) ∧ Below w.heap.size w wr) (fun _ _ i _ => (size - intOf i).toNat)
  case atStart => exact ⟨0, by omega, rfl, rfl, rfl, Below.refl _ _⟩
  case round =>
    obtain ⟨k, hk, rfl, rfl, rfl, hB⟩ := hrel
    have HB := hide hB
    clear hB
    by_cases hlt : (k : Int) < size
    · have hn : strOfNums (putU u (k + 1)) = strOfNums [low8 (dv u k)] ++ strOfNums (putU u k) := by rw [putU_front, strOf_cons]
      have hd : dv u (k + 1) = dv u k / 256 := rfl
      have hs1 : ((strOfNums (putU u k)).size : Int) ≤ 8388608 := by rw [strOf_size, putU_len]; omega
      have hs2 : ((strOfNums [low8 (dv u k)]).size : Int) ≤ 8388608 := by rw [strOf_size]; simp
      have hcv := conv_c wr [low8 (dv u k)] 5
      simp only [List.map_cons, List.map_nil, List.length_cons, List.length_nil, Nat.zero_add] at hcv
      generalize strOfNums (putU u k) = so at *
      generalize strOfNums [low8 (dv u k)] = sx at *
      generalize hsn : strOfNums (putU u (k + 1)) = sn at *
      generalize hv2 : dv u (k + 1) = v2 at *
      generalize dv u k = v at *
      generalize hl : low8 v = x at *
      unfold low8 at hl
      have HN := hide hn
      have HD := hide hd
      have HSN := hide hsn
      have HV2 := hide hv2
      clear hn hd hsn hv2
      go_wp2
      go_round
      case rel =>
        refine ⟨k + 1, by omega, by go_num, ?_, ?_, Bel.then HB.out (Bel.one _ _)⟩
        · rw [HV2.out, HD.out]
        · rw [HSN.out, HN.out]
      case measure => simp [intOf]; omega
    · have e : size.toNat = k := by omega
      go_wp2
      go_ret
      refine ⟨ret_str ?_, HB.out⟩
      rfl
theorem rput_no (n size : Int) (h : size < 0 ∨ 8 < size) (w : World) :
    Calls Tryd.prog 57 #[.int .i64 n, .int .i64 size] w fun e w' => e = .returned (.string { data := #[] }) ∧ w = w' := by
  rcases (show size < 0 ∨ (0 ≤ size ∧ 8 < size) by omega) with h1 | ⟨h1, h2⟩
  all_goals
    clear h
    go_enter Tryd.func57, Tryd.ntmps57
    go_wp2
    go_ret
    exact ⟨rfl, rfl⟩
theorem put_no (n size : Int) (h : size < 0 ∨ 8 < size) (w : World) :
    Calls Tryd.prog 61 #[.int .i64 n, .int .i64 size] w fun e w' => e = .returned (.string { data := #[] }) ∧ w = w' := by
  rcases (show size < 0 ∨ (0 ≤ size ∧ 8 < size) by omega) with h1 | ⟨h1, h2⟩
  all_goals
    clear h
    go_enter Tryd.func61, Tryd.ntmps61
    go_wp2
    go_ret
    exact ⟨rfl, rfl⟩
theorem put0 (n : Int) (w : World) :
    Calls Tryd.prog 61 #[.int .i64 n, .int .i64 0] w fun e w' => e = .returned (.string (strOfNums (putL n 0))) ∧ Below w.heap.size w w' := by
  have hmk : ∀ w, (Instr.makeSlice 40 (.int .i64 0) (.int .i64 0)).run Tryd.prog w = .ok (.slice (some ⟨w.heap.size, 0, none⟩) 0 0) (w.alloc (.cells #[] 5)) := fun _ => by kernel_rfl
  have hcv : (convert 40 9 (.slice (some ⟨w.heap.size, 0, none⟩) 0 0)).run Tryd.prog (w.alloc (.cells #[] 5)) = .ok (.string (strOfNums (putL n 0))) (w.alloc (.cells #[] 5)) := conv_c w [] 5
  generalize strOfNums (putL n 0) = s at *
  go_enter Tryd.func61, Tryd.ntmps61
  go_wp2
  go_rounds 1
  go_ret
  exact ⟨rfl, Bel.one _ _⟩
/-- What a put gives, at any size. -/
def putP (n size : Int) : ByteArray := if 0 ≤ size ∧ size ≤ 8 then strOfNums (putL n size.toNat) else { data := #[] }
theorem put_c (n size : Int) (w : World) :
    Calls Tryd.prog 61 #[.int .i64 n, .int .i64 size] w fun e w' => e = .returned (.string (putP n size)) ∧ Below w.heap.size w w' := by
  unfold putP
  by_cases h : 0 ≤ size ∧ size ≤ 8
  · rw [if_pos h]
    obtain rfl | rfl | rfl | rfl | rfl | rfl | rfl | rfl | rfl : size = 0 ∨ size = 1 ∨ size = 2 ∨ size = 3 ∨ size = 4 ∨ size = 5 ∨ size = 6 ∨ size = 7 ∨ size = 8 := by omega
    · exact put0 n w
    · exact put1 n w
    · exact put2 n w
    · exact put3 n w
    · exact put4 n w
    · exact put5 n w
    · exact put6 n w
    · exact put7 n w
    · exact put8 n w
  · rw [if_neg h]
    refine (put_no n size (by omega) w).mono ?_
    rintro e w' ⟨he, rfl⟩
    exact ⟨he, Below.refl _ _⟩
theorem low8_mod (u : Int) : low8 u = u % 256 := by
  have h : (BitVec.ofInt 64 u &&& BitVec.ofInt 64 255).toNat = (BitVec.ofInt 64 u).toNat % 256 := by
    rw [BitVec.toNat_and]
    exact Nat.and_two_pow_sub_one_eq_mod _ 8
  have e : low8 u = IntKind.wrap .u64 ((BitVec.ofInt 64 u &&& BitVec.ofInt 64 255).toNat : Int) % 256 := rfl
  rw [e, h, BitVec.toNat_ofInt]
  have e2 : ∀ n : Nat, n < 256 → IntKind.wrap .u64 (n : Int) = n := by
    intro n hn
    unfold IntKind.wrap
    simp [IntKind.bits, IntKind.signed]
    omega
  rw [e2 _ (by omega)]
  omega
theorem putU_L : ∀ (k : Nat) (u : Int), putU u k = putL u k
  | 0, _ => rfl
  | k + 1, u => by rw [putU, putL, putU_L k, low8_mod]
theorem mod_div (n m : Int) (hm : 0 < m) : n % (256 * m) / 256 = (n / 256) % m := by
  have h1 : n = 256 * ((n / 256) % m) + n % 256 + 256 * m * (n / 256 / m) := by
    have a := Int.emod_add_mul_ediv (n / 256) m
    have b := Int.emod_add_mul_ediv n 256
    have c : 256 * m * (n / 256 / m) = 256 * (m * (n / 256 / m)) := Int.mul_assoc _ _ _
    rw [c]
    generalize m * (n / 256 / m) = y at *
    omega
  have h2 := Int.emod_nonneg (n / 256) (show m ≠ 0 by omega)
  have h3 := Int.emod_lt_of_pos (n / 256) hm
  have h4 : n % (256 * m) = 256 * ((n / 256) % m) + n % 256 := by
    conv => lhs; rw [h1]
    rw [Int.add_mul_emod_self_left]
    generalize n / 256 % m = t at *
    exact Int.emod_eq_of_lt (by omega) (by omega)
  rw [h4]
  omega
theorem putL_mod : ∀ (k m : Nat) (n : Int), k ≤ m → putL (n % 256 ^ m) k = putL n k
  | 0, _, _, _ => rfl
  | k + 1, m, n, h => by
    obtain ⟨m, rfl⟩ : ∃ m', m = m' + 1 := ⟨m - 1, by omega⟩
    have hp : (0 : Int) < 256 ^ m := Int.pow_pos (by omega)
    have e1 : n % 256 ^ (m + 1) % 256 = n % 256 := by
      rw [Int.pow_succ]
      exact Int.emod_emod_of_dvd n (Int.dvd_mul_left _ _)
    have e2 : n % 256 ^ (m + 1) / 256 = (n / 256) % 256 ^ m := by
      rw [Int.pow_succ, Int.mul_comm (256 ^ m) 256]
      exact mod_div n _ hp
    rw [putL, putL, e1, e2, putL_mod k m (n / 256) (by omega)]
theorem wrap64_mod (n : Int) : IntKind.u64.wrap n = n % 256 ^ 8 := by
  unfold IntKind.wrap
  simp [IntKind.bits, IntKind.signed]
theorem put_same (n : Int) (k : Nat) (h : k ≤ 8) : putU (IntKind.u64.wrap n) k = putL n k := by
  rw [putU_L, wrap64_mod, putL_mod k 8 n h]
theorem rput_c (n size : Int) (w : World) :
    Calls Tryd.prog 57 #[.int .i64 n, .int .i64 size] w fun e w' => e = .returned (.string (putP n size)) ∧ Below w.heap.size w w' := by
  unfold putP
  by_cases h : 0 ≤ size ∧ size ≤ 8
  · rw [if_pos h, ← put_same n _ (by omega)]
    exact rput_yes n size h.1 h.2 w
  · rw [if_neg h]
    refine (rput_no n size (by omega) w).mono ?_
    rintro e w' ⟨he, rfl⟩
    exact ⟨he, Below.refl _ _⟩
end Go.Proofs.YtfdedkcidemimaaDoor
namespace Go.Proofs.YtfdedkcidemimaaDoor
set_option linter.unusedVariables false
open Go.ChangeShapes Go.WideShapes Go.ChangeAt Go.RowKit

theorem wrapu (z : Int) (h0 : 0 ≤ z) (h1 : z < 18446744073709551616) : IntKind.wrap .u64 z = z := by
  unfold IntKind.wrap
  simp [IntKind.bits, IntKind.signed]
  omega
theorem stepU_add (z : Int) (c : UInt8) (h0 : 0 ≤ z) (h1 : z < 72057594037927936) : stepU z c = z * 256 + c.toNat := by
  have hc := c.toNat_lt
  obtain ⟨m, rfl⟩ : ∃ m : Nat, z = m := ⟨z.toNat, by omega⟩
  unfold stepU
  rw [wrapu _ (by omega) (by omega), wrapu _ (by omega) (by omega)]
  have e : bits BinOp.or IntKind.u64 ((m : Int) * 256) (c.toNat : Int) = IntKind.wrap .u64 ((BitVec.ofInt 64 ((m : Int) * 256) ||| BitVec.ofInt 64 (c.toNat : Int)).toNat : Int) := rfl
  rw [e, BitVec.toNat_or, BitVec.toNat_ofInt, BitVec.toNat_ofInt]
  have e1 : (((m : Int) * 256) % ((2 : Nat) ^ 64 : Nat)).toNat = 2 ^ 8 * m := by omega
  have e2 : ((c.toNat : Int) % ((2 : Nat) ^ 64 : Nat)).toNat = c.toNat := by omega
  rw [e1, e2, ← Nat.two_pow_add_eq_or_of_lt (by omega) m, wrapu _ (by omega) (by omega)]
  omega
def byteOf (x : Int) : UInt8 := UInt8.ofNat x.toNat
theorem strOf_list (l : List Int) : (strOfNums l).data.toList = l.map byteOf := by
  simp [strOfNums, byteOf]
theorem pow_le (k : Nat) (h : k ≤ 7) : (256 : Int) ^ k ≤ 72057594037927936 := by
  have h3 : ∀ a < 8, (256 : Int) ^ a ≤ 72057594037927936 := by decide
  exact h3 k (by omega)
theorem mod_step (n m : Int) (hm : 0 < m) : (n / 256 % m) * 256 + n % 256 = n % (256 * m) := by
  have h1 := mod_div n m hm
  have h2 : n % (256 * m) % 256 = n % 256 := Int.emod_emod_of_dvd n (Int.dvd_mul_right _ _)
  generalize n % (256 * m) = t at *
  omega
theorem foldU_put : ∀ (k : Nat) (n : Int), k ≤ 8 → ((putL n k).map byteOf).foldl stepU 0 = n % 256 ^ k
  | 0, n, _ => by simp [putL, Int.emod_one]
  | k + 1, n, h => by
    have hp : (0 : Int) < 256 ^ k := Int.pow_pos (by omega)
    have hl := pow_le k (by omega)
    have b0 := Int.emod_nonneg (n / 256) (show (256 : Int) ^ k ≠ 0 by omega)
    have b1 := Int.emod_lt_of_pos (n / 256) hp
    rw [putL, List.map_append, List.foldl_append, foldU_put k (n / 256) (by omega)]
    simp only [List.map_cons, List.map_nil, List.foldl_cons, List.foldl_nil]
    rw [stepU_add _ _ b0 (by omega)]
    have hb : ((byteOf (n % 256)).toNat : Int) = n % 256 := by
      unfold byteOf
      simp only [UInt8.toNat_ofNat']
      omega
    rw [hb, mod_step n _ hp, Int.pow_succ, Int.mul_comm]
theorem numU_take (s : ByteArray) : ∀ k : Nat, k ≤ s.size → numU s 0 k = (s.data.toList.take k).foldl stepU 0
  | 0, _ => rfl
  | k + 1, h => by
    have e : ((0 : Int) + (k : Int)).toNat = k := by omega
    rw [numU, numU_take s k (by omega), str_take s k (by omega), List.foldl_append, e, byteAt_in (show k < s.size by omega)]
    rfl
theorem got (n : Int) (k : Nat) (h : k ≤ 8) : numU (strOfNums (putL n k)) 0 k = n % 256 ^ k := by
  have hs : (strOfNums (putL n k)).size = k := by rw [strOf_size, putL_len]
  rw [numU_take _ k (by omega), List.take_of_length_le (by rw [str_len, hs]; exact Nat.le_refl _), strOf_list, foldU_put k n h]
def backN (n : Int) (k : Nat) : Int := wrap64 (n % 256 ^ k)
theorem putP_in (n : Int) (k : Nat) (h : k ≤ 8) : putP n k = strOfNums (putL n k) := by
  unfold putP
  rw [if_pos (by omega), Int.toNat_natCast]
theorem get_put (n : Int) (k : Nat) (h1 : 1 ≤ k) (h : k ≤ 8) : getP (putP n k) 0 k = (backN n k, true) := by
  have hs : (strOfNums (putL n k)).size = k := by rw [strOf_size, putL_len]
  rw [putP_in n k h]
  unfold getP
  rw [if_pos (by omega), Int.toNat_natCast, got n k h]
  rfl
theorem back_small (n : Int) (k : Nat) (h : k ≤ 7) : backN n k = n % 256 ^ k := by
  have hp : (0 : Int) < 256 ^ k := Int.pow_pos (by omega)
  have hl := pow_le k h
  have b0 := Int.emod_nonneg n (show (256 : Int) ^ k ≠ 0 by omega)
  have b1 := Int.emod_lt_of_pos n hp
  unfold backN
  generalize n % 256 ^ k = x at *
  rw [wrap64]
  omega
theorem back_eight (n : Int) (h0 : -9223372036854775808 ≤ n) (h1 : n ≤ 9223372036854775807) : backN n 8 = n := by
  unfold backN
  rw [show (256 : Int) ^ 8 = 18446744073709551616 by decide, wrap64]
  omega
theorem put_again (n : Int) (k : Nat) (h : k ≤ 8) (h0 : -9223372036854775808 ≤ n) (h1 : n ≤ 9223372036854775807) : putP (backN n k) k = putP n k := by
  rcases Nat.lt_or_ge k 8 with h2 | h2
  · rw [putP_in _ k h, putP_in _ k h, back_small n k (by omega), putL_mod k k n (Nat.le_refl _)]
  · obtain rfl : k = 8 := by omega
    rw [back_eight n h0 h1]
theorem back_same (n : Int) (k : Nat) (h : k ≤ 7) (h0 : 0 ≤ n) (h1 : n < 256 ^ k) : backN n k = n := by
  rw [back_small n k h]
  exact Int.emod_eq_of_lt h0 h1
end Go.Proofs.YtfdedkcidemimaaDoor
namespace Go.Proofs.YtfdedkcidemimaaDoor
set_option linter.unusedVariables false
open Go.ChangeShapes Go.WideShapes Go.ChangeAt Go.RowKit

def stepR (u : Int) : Int := if bits BinOp.and IntKind.u64 u 1 = 1 then bits BinOp.xor IntKind.u64 (u / 2) 3988292384 else u / 2
theorem step_c (u : Int) (w : World) : Calls Tryd.prog 73 #[.int .u64 u] w fun e w' => e = .returned (.int .u64 (stepR u)) ∧ w = w' := by
  by_cases h : bits BinOp.and IntKind.u64 u 1 = 1
  · rw [show stepR u = bits BinOp.xor IntKind.u64 (u / 2) 3988292384 from if_pos h]
    go_enter Tryd.func73, Tryd.ntmps73
    go_wp2
    go_ret
    exact ⟨rfl, rfl⟩
  · rw [show stepR u = u / 2 from if_neg h]
    have h2 : (bits BinOp.and IntKind.u64 u 1 == 1) = false := by simp [h]
    clear h
    go_enter Tryd.func73, Tryd.ntmps73
    go_wp2
    go_ret
    exact ⟨rfl, rfl⟩
def stepsR (u : Int) : Nat → Int
  | 0 => u
  | k + 1 => stepR (stepsR u k)
def rin (z : Int) (c : UInt8) : Int := bits BinOp.xor IntKind.u64 z (IntKind.u64.wrap c.toNat)
def rstep (z : Int) (c : UInt8) : Int := stepsR (rin z c) 8
def rsumL (l : List UInt8) : Int := l.foldl rstep 4294967295
def rsumP (s : ByteArray) : Int := wrap64 (bits BinOp.xor IntKind.u64 (rsumL s.data.toList) 4294967295)
theorem rsum_take (s : ByteArray) (k : Nat) (h : k < s.size) : rsumL (s.data.toList.take (k + 1)) = rstep (rsumL (s.data.toList.take k)) s[k] := by
  rw [str_take s k h]
  unfold rsumL
  rw [List.foldl_append]
  rfl
set_option maxHeartbeats 1000000 in
theorem rsum_c (s : ByteArray) (hm : s.size ≤ 9223372036854775807) (w : World) :
    Calls Tryd.prog 58 #[.string s] w fun e w' => e = .returned (.int .i64 (rsumP s)) ∧ w = w' := by
  go_enter Tryd.func58, Tryd.ntmps58
  go_wp2
  go_loop [3, 4, 5] (fun n i _ => ∃ k : Nat, k ≤ s.size ∧ i = .int .i64 k ∧ n = .int .u64 (rsumL (s.data.toList.take k))) (fun _ i _ => s.size - (intOf i).toNat)
  case atStart => exact ⟨0, Nat.zero_le _, rfl, rfl⟩
  case round =>
    obtain ⟨k, hk, rfl, rfl⟩ := hrel
    by_cases hlt : k < s.size
    · have hst := rsum_take s k hlt
      generalize rsumL (s.data.toList.take k) = z at *
      generalize hn : rsumL (s.data.toList.take (k + 1)) = z4 at *
      unfold rstep at hst
      generalize hx : rin z s[k] = x at *
      unfold rin at hx
      have HN := hide hn
      have HS := hide hst
      clear hn hst
      go_wp2
      go_loop [3, 5] (fun n j => ∃ m : Nat, m ≤ 8 ∧ j = .int .i64 m ∧ n = .int .u64 (stepsR x m)) (fun _ j => 8 - (intOf j).toNat)
      case atStart => exact ⟨0, by omega, rfl, rfl⟩
      case round =>
        obtain ⟨m, hm8, rfl, rfl⟩ := hrel
        by_cases hlt2 : m < 8
        · have hs : stepsR x (m + 1) = stepR (stepsR x m) := rfl
          have q := fun W => step_c (stepsR x m) W
          rw [← hs] at q
          generalize stepsR x m = y at *
          generalize hy : stepsR x (m + 1) = y2 at *
          have HY := hide hy
          have Q := hide q
          clear hy q hs
          go_wp2_with fail
          refine (Q.out _).mono ?_
          rintro e w' ⟨rfl, rfl⟩
          go_wp2_with fail
          go_round
          case rel =>
            refine ⟨m + 1, by omega, by go_num, ?_⟩
            rw [HY.out]
          case measure => simp [intOf]; omega
        · obtain rfl : m = 8 := by omega
          generalize hy : stepsR x 8 = y at *
          have HY := hide hy
          clear hy
          go_wp2_with fail
          go_round
          case rel =>
            refine ⟨k + 1, by omega, by go_num, ?_⟩
            rw [HN.out, HS.out]
          case measure => simp [intOf]; omega
    · have e : s.data.toList.take k = s.data.toList := List.take_of_length_le (by rw [str_len]; omega)
      generalize hz : rsumL (s.data.toList.take k) = z at *
      have HZ := hide hz
      clear hz
      go_wp2
      go_ret
      refine ⟨ret_int ?_, rfl⟩
      unfold rsumP
      rw [← e, HZ.out]
end Go.Proofs.YtfdedkcidemimaaDoor
namespace Go.Proofs.YtfdedkcidemimaaDoor
set_option linter.unusedVariables false
open Go.ChangeShapes Go.WideShapes Go.ChangeAt Go.RowKit

theorem xor_half (a b : Nat) : (a ^^^ b) / 2 = a / 2 ^^^ b / 2 := by
  have h := Nat.shiftRight_xor_distrib (a := a) (b := b) (i := 1)
  simpa [Nat.shiftRight_eq_div_pow] using h
theorem xor_par (a b : Nat) (h : b % 2 = 0) : (a ^^^ b) % 2 = a % 2 := by
  have h2 := Nat.xor_mod_two_pow (a := a) (b := b) (n := 1)
  simp only [Nat.pow_one] at h2
  rw [h2, h, Nat.xor_zero]
def stepN (u : Nat) : Nat := if u % 2 = 1 then (u / 2) ^^^ 3988292384 else u / 2
theorem stepN_1 (a c : Nat) (hc : c % 2 = 0) (h : a % 2 = 1) : stepN (a ^^^ c) = (a / 2) ^^^ (c / 2 ^^^ 3988292384) := by
  unfold stepN
  rw [xor_par a c hc, if_pos h, xor_half, Nat.xor_assoc]
theorem stepN_0 (a c : Nat) (hc : c % 2 = 0) (h : ¬ a % 2 = 1) : stepN (a ^^^ c) = (a / 2) ^^^ (c / 2) := by
  unfold stepN
  rw [xor_par a c hc, if_neg h, xor_half]
def tabN (j : Nat) : Nat := (tabAt j).toNat
theorem four (y : Nat) : stepN (stepN (stepN (stepN y))) = (y / 16) ^^^ tabN (y % 16) := by
  have e : y = y ^^^ 0 := by simp
  have e16 : y / 2 / 2 / 2 / 2 = y / 16 := by omega
  have key : ∃ c, stepN (stepN (stepN (stepN (y ^^^ 0)))) = (y / 2 / 2 / 2 / 2) ^^^ c ∧ c = tabN (y % 16) := by
    by_cases b0 : y % 2 = 1 <;> by_cases b1 : y / 2 % 2 = 1 <;> by_cases b2 : y / 2 / 2 % 2 = 1 <;> by_cases b3 : y / 2 / 2 / 2 % 2 = 1
    all_goals
      first | rw [stepN_1 y _ (by decide) b0] | rw [stepN_0 y _ (by decide) b0]
      first | rw [stepN_1 (y / 2) _ (by decide) b1] | rw [stepN_0 (y / 2) _ (by decide) b1]
      first | rw [stepN_1 (y / 2 / 2) _ (by decide) b2] | rw [stepN_0 (y / 2 / 2) _ (by decide) b2]
      first | rw [stepN_1 (y / 2 / 2 / 2) _ (by decide) b3] | rw [stepN_0 (y / 2 / 2 / 2) _ (by decide) b3]
      refine ⟨_, rfl, ?_⟩
    all_goals
      first
        | (rw [show y % 16 = 0 by omega]; decide) | (rw [show y % 16 = 1 by omega]; decide) | (rw [show y % 16 = 2 by omega]; decide) | (rw [show y % 16 = 3 by omega]; decide)
        | (rw [show y % 16 = 4 by omega]; decide) | (rw [show y % 16 = 5 by omega]; decide) | (rw [show y % 16 = 6 by omega]; decide) | (rw [show y % 16 = 7 by omega]; decide)
        | (rw [show y % 16 = 8 by omega]; decide) | (rw [show y % 16 = 9 by omega]; decide) | (rw [show y % 16 = 10 by omega]; decide) | (rw [show y % 16 = 11 by omega]; decide)
        | (rw [show y % 16 = 12 by omega]; decide) | (rw [show y % 16 = 13 by omega]; decide) | (rw [show y % 16 = 14 by omega]; decide) | (rw [show y % 16 = 15 by omega]; decide)
  obtain ⟨c, h1, h2⟩ := key
  rw [← e, e16, h2] at h1
  exact h1
theorem wrapu32 (z : Nat) (h1 : z < 4294967296) : IntKind.wrap .u32 (z : Int) = z := by
  unfold IntKind.wrap
  simp [IntKind.bits, IntKind.signed]
  omega
theorem xor64 (a b : Nat) (ha : a < 4294967296) (hb : b < 4294967296) : bits BinOp.xor IntKind.u64 (a : Int) (b : Int) = ((a ^^^ b : Nat) : Int) ∧ a ^^^ b < 4294967296 := by
  have hx : a ^^^ b < 4294967296 := Nat.xor_lt_two_pow (n := 32) ha hb
  refine ⟨?_, hx⟩
  have e : bits BinOp.xor IntKind.u64 (a : Int) (b : Int) = IntKind.wrap .u64 ((BitVec.ofInt 64 (a : Int) ^^^ BitVec.ofInt 64 (b : Int)).toNat : Int) := rfl
  rw [e, BitVec.toNat_xor, BitVec.toNat_ofInt, BitVec.toNat_ofInt, show ((a : Int) % ((2 : Nat) ^ 64 : Nat)).toNat = a by omega, show ((b : Int) % ((2 : Nat) ^ 64 : Nat)).toNat = b by omega]
  exact wrapu _ (by omega) (by omega)
theorem xor32 (a b : Nat) (ha : a < 4294967296) (hb : b < 4294967296) : bits BinOp.xor IntKind.u32 (a : Int) (b : Int) = ((a ^^^ b : Nat) : Int) := by
  have hx : a ^^^ b < 4294967296 := Nat.xor_lt_two_pow (n := 32) ha hb
  have e : bits BinOp.xor IntKind.u32 (a : Int) (b : Int) = IntKind.wrap .u32 ((BitVec.ofInt 32 (a : Int) ^^^ BitVec.ofInt 32 (b : Int)).toNat : Int) := rfl
  rw [e, BitVec.toNat_xor, BitVec.toNat_ofInt, BitVec.toNat_ofInt, show ((a : Int) % ((2 : Nat) ^ 32 : Nat)).toNat = a by omega, show ((b : Int) % ((2 : Nat) ^ 32 : Nat)).toNat = b by omega]
  exact wrapu32 _ hx
theorem and1 (u : Nat) (h : u < 4294967296) : bits BinOp.and IntKind.u64 (u : Int) 1 = ((u % 2 : Nat) : Int) := by
  have e : bits BinOp.and IntKind.u64 (u : Int) 1 = IntKind.wrap .u64 ((BitVec.ofInt 64 (u : Int) &&& BitVec.ofInt 64 1).toNat : Int) := rfl
  rw [e, BitVec.toNat_and, BitVec.toNat_ofInt, show ((u : Int) % ((2 : Nat) ^ 64 : Nat)).toNat = u by omega, show (BitVec.ofInt 64 1).toNat = 2 ^ 1 - 1 by decide, Nat.and_two_pow_sub_one_eq_mod]
  exact wrapu _ (by omega) (by omega)
theorem nib_nat (u : Nat) (h : u < 4294967296) : nib (u : Int) = ((u % 16 : Nat) : Int) := by
  have e : nib (u : Int) = IntKind.wrap .u32 ((BitVec.ofInt 32 (u : Int) &&& BitVec.ofInt 32 15).toNat : Int) := rfl
  rw [e, BitVec.toNat_and, BitVec.toNat_ofInt, show ((u : Int) % ((2 : Nat) ^ 32 : Nat)).toNat = u by omega, show (BitVec.ofInt 32 15).toNat = 2 ^ 4 - 1 by decide, Nat.and_two_pow_sub_one_eq_mod]
  exact wrapu32 _ (by omega)
theorem stepR_nat (u : Nat) (h : u < 4294967296) : stepR (u : Int) = (stepN u : Nat) ∧ stepN u < 4294967296 := by
  unfold stepR stepN
  rw [and1 u h]
  by_cases hp : u % 2 = 1
  · rw [if_pos (by omega), if_pos hp]
    have := xor64 (u / 2) 3988292384 (by omega) (by omega)
    exact ⟨by rw [← this.1]; rfl, this.2⟩
  · rw [if_neg (by omega), if_neg hp]
    exact ⟨by omega, by omega⟩
theorem tab_nat : ∀ j < 16, tabAt (j : Nat) = (tabN j : Nat) ∧ tabN j < 4294967296 := by decide
theorem xup_nat (y : Nat) (h : y < 4294967296) : xup (y : Int) = (stepN (stepN (stepN (stepN y))) : Nat) := by
  rw [four]
  unfold xup
  have ht := tab_nat (y % 16) (by omega)
  rw [nib_nat y h, ht.1, show ((y : Int) / 16) = ((y / 16 : Nat) : Int) by omega, xor32 _ _ (by omega) ht.2]
theorem stepsR_nat : ∀ (k : Nat) (u : Nat), u < 4294967296 → ∃ v : Nat, stepsR (u : Int) k = v ∧ v < 4294967296 ∧ v = Nat.repeat stepN k u
  | 0, u, h => ⟨u, rfl, h, rfl⟩
  | k + 1, u, h => by
    obtain ⟨v, h1, h2, h3⟩ := stepsR_nat k u h
    have := stepR_nat v h2
    exact ⟨stepN v, by rw [stepsR, h1, this.1], this.2, by rw [h3]; rfl⟩
theorem step_same (z : Nat) (c : UInt8) (h : z < 4294967296) : ∃ v : Nat, stepS (z : Int) c = v ∧ rstep (z : Int) c = v ∧ v < 4294967296 := by
  have hc := c.toNat_lt
  have hx := xor64 z c.toNat h (by omega)
  have hx2 := xor32 z c.toNat h (by omega)
  have e1 : rin (z : Int) c = ((z ^^^ c.toNat : Nat) : Int) := by unfold rin; rw [wrapu _ (by omega) (by omega), hx.1]
  have e2 : xin (z : Int) c = ((z ^^^ c.toNat : Nat) : Int) := by unfold xin; rw [show (c.toNat : Int) % 4294967296 = c.toNat by omega, hx2]
  obtain ⟨v, h1, h2, h3⟩ := stepsR_nat 8 _ hx.2
  obtain ⟨v4, g1, g2, g3⟩ := stepsR_nat 4 _ hx.2
  refine ⟨v, ?_, by unfold rstep; rw [e1, h1], h2⟩
  unfold stepS
  have g3' : stepN (stepN (stepN (stepN (z ^^^ c.toNat)))) = v4 := g3.symm
  rw [e2, xup_nat _ hx.2, g3', xup_nat _ g2, ← g3']
  congr 1
  exact h3.symm
theorem sum_same (l : List UInt8) : ∀ z : Nat, z < 4294967296 → ∃ v : Nat, l.foldl stepS (z : Int) = v ∧ l.foldl rstep (z : Int) = v ∧ v < 4294967296 := by
  induction l with
  | nil => intro z h; exact ⟨z, rfl, rfl, h⟩
  | cons c l ih =>
    intro z h
    obtain ⟨v, h1, h2, h3⟩ := step_same z c h
    simp only [List.foldl_cons]
    rw [h1, h2]
    exact ih v h3
theorem sumP_same (s : ByteArray) : rsumP s = sumP s := by
  obtain ⟨v, h1, h2, h3⟩ := sum_same s.data.toList 4294967295 (by omega)
  unfold rsumP sumP rsumL sumL
  rw [show ((4294967295 : Nat) : Int) = 4294967295 from rfl] at h1 h2
  rw [h1, h2]
  have a := (xor64 v 4294967295 h3 (by omega)).1
  have b := xor32 4294967295 v (by omega) h3
  rw [Nat.xor_comm] at b
  rw [show IntKind.u32.max = ((4294967295 : Nat) : Int) by rfl, b]
  exact congrArg wrap64 a
end Go.Proofs.YtfdedkcidemimaaDoor
namespace Go.Proofs.YtfdedkcidemimaaDoor
set_option linter.unusedVariables false
open Go.ChangeShapes Go.WideShapes Go.ChangeAt Go.RowKit

theorem xor_four (a b c d : Nat) : (a ^^^ b) ^^^ (c ^^^ d) = (a ^^^ c) ^^^ (b ^^^ d) := by
  rw [Nat.xor_assoc, Nat.xor_assoc, ← Nat.xor_assoc b c d, Nat.xor_comm b c, Nat.xor_assoc c b d]
theorem par_xor (a b : Nat) : (a ^^^ b) % 2 = (a % 2) ^^^ (b % 2) := by
  have h2 := Nat.xor_mod_two_pow (a := a) (b := b) (n := 1)
  simpa only [Nat.pow_one] using h2
theorem stepN_xor (a b : Nat) : stepN (a ^^^ b) = stepN a ^^^ stepN b := by
  unfold stepN
  rw [par_xor, xor_half]
  rcases Nat.mod_two_eq_zero_or_one a with ha | ha <;> rcases Nat.mod_two_eq_zero_or_one b with hb | hb
  · rw [ha, hb]; rfl
  · rw [ha, hb]
    show (a / 2 ^^^ b / 2) ^^^ 3988292384 = a / 2 ^^^ (b / 2 ^^^ 3988292384)
    rw [Nat.xor_assoc]
  · rw [ha, hb]
    show (a / 2 ^^^ b / 2) ^^^ 3988292384 = (a / 2 ^^^ 3988292384) ^^^ b / 2
    rw [Nat.xor_assoc, Nat.xor_assoc, Nat.xor_comm (b / 2)]
  · rw [ha, hb]
    show a / 2 ^^^ b / 2 = (a / 2 ^^^ 3988292384) ^^^ (b / 2 ^^^ 3988292384)
    rw [xor_four, Nat.xor_self, Nat.xor_zero]
theorem xor_zero {a b : Nat} (h : a ^^^ b = 0) : a = b := by
  have h2 : (a ^^^ b) ^^^ b = b := by rw [h, Nat.zero_xor]
  rwa [Nat.xor_assoc, Nat.xor_self, Nat.xor_zero] at h2
theorem stepN_lt (a : Nat) (h : a < 4294967296) : stepN a < 4294967296 := (stepR_nat a h).2
theorem stepN_zero (a : Nat) (h : a < 4294967296) (h0 : stepN a = 0) : a = 0 := by
  unfold stepN at h0
  by_cases hp : a % 2 = 1
  · rw [if_pos hp] at h0
    have := xor_zero h0
    omega
  · rw [if_neg hp] at h0
    omega
theorem rep_xor : ∀ (k a b : Nat), Nat.repeat stepN k (a ^^^ b) = Nat.repeat stepN k a ^^^ Nat.repeat stepN k b
  | 0, _, _ => rfl
  | k + 1, a, b => by
    show stepN (Nat.repeat stepN k (a ^^^ b)) = stepN (Nat.repeat stepN k a) ^^^ stepN (Nat.repeat stepN k b)
    rw [rep_xor k a b, stepN_xor]
theorem rep_lt : ∀ (k a : Nat), a < 4294967296 → Nat.repeat stepN k a < 4294967296
  | 0, _, h => h
  | k + 1, a, h => stepN_lt _ (rep_lt k a h)
theorem rep_zero : ∀ (k a : Nat), a < 4294967296 → Nat.repeat stepN k a = 0 → a = 0
  | 0, _, _, h => h
  | k + 1, a, h, h0 => rep_zero k a h (stepN_zero _ (rep_lt k a h) h0)
/-- The sum's state, byte by byte, over Nat. -/
def sumN (z : Nat) (l : List Nat) : Nat := l.foldl (fun z c => Nat.repeat stepN 8 (z ^^^ c)) z
theorem sumN_xor : ∀ (a b : List Nat) (y z : Nat), a.length = b.length → sumN (y ^^^ z) (List.zipWith (· ^^^ ·) a b) = sumN y a ^^^ sumN z b
  | [], [], _, _, _ => rfl
  | c :: a, d :: b, y, z, h => by
    simp only [sumN, List.zipWith_cons_cons, List.foldl_cons]
    rw [xor_four, rep_xor]
    exact sumN_xor a b _ _ (by simpa using h)
  | [], _ :: _, _, _, h => by simp at h
  | _ :: _, [], _, _, h => by simp at h
theorem sumN_lt : ∀ (l : List Nat) (z : Nat), z < 4294967296 → (∀ c ∈ l, c < 256) → sumN z l < 4294967296
  | [], _, h, _ => h
  | c :: l, z, h, hl => by
    refine sumN_lt l _ (rep_lt 8 _ ?_) (fun d hd => hl d (List.mem_cons_of_mem _ hd))
    exact Nat.xor_lt_two_pow (n := 32) h (by have := hl c List.mem_cons_self; omega)
/-- From a state that is not 0, bytes 0 never come back to 0. -/
theorem sumN_stays : ∀ (k z : Nat), z < 4294967296 → sumN z (List.replicate k 0) = 0 → z = 0
  | 0, _, _, h => h
  | k + 1, z, hz, h => by
    simp only [sumN, List.replicate_succ, List.foldl_cons, Nat.xor_zero] at h
    exact rep_zero 8 z hz (sumN_stays k _ (rep_lt 8 z hz) h)
/-- Bytes 0 from the state 0: nothing comes of it. -/
theorem sumN_none : ∀ k : Nat, sumN 0 (List.replicate k 0) = 0
  | 0 => rfl
  | k + 1 => by
    simp only [sumN, List.replicate_succ, List.foldl_cons, Nat.xor_zero]
    exact sumN_none k
end Go.Proofs.YtfdedkcidemimaaDoor
