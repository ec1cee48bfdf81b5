/-
  What stands for the program's disk in the world.
-/
import Derived.Test.YtoppcpiheaedlaaGreatDoorPs
import Derived.Test.YtoppcpiheaedlaaGreatDoorOwn
namespace Go.Proofs.YtoppcpiheaedlaaGreatDoor
open Go.RowKit Go.MapKept
set_option linter.unusedVariables false
set_option linter.unusedSimpArgs false

def pv (b : Nat) : Value := .pointer (some ⟨b, 0, none⟩)
def mv (b : Nat) : Value := .map (some b)
def secC (p : Sec) : List Value := p.map bv
def wpC (w : Wr) : List Value := nv w.id :: nv w.n :: w.p.map bv
/-- A file: its number, its block, its rows, its sectors now and as they are safe. -/
structure Fi where
  num : Nat
  blk : Nat
  vn : Value
  vs : Value
  now : List Sec
  safe : List Sec
def Fi.ent (f : Fi) : Nat × Nat := (f.num, f.blk)
def Fi.pure (f : Fi) : Nat × (List Sec × List Sec) := (f.num, (f.now, f.safe))
structure Px where
  room : Nat
  vd : Value
  dirs : List (Nat × Dir)
  fm : Nat
  fs : List Fi
  made : Nat
  vp : Value
  pend : List Wr
  first : Int
  code : Int
def Px.s (x : Px) : Ps := ⟨x.room, x.dirs.map (·.2), x.fs.map Fi.pure, x.made, x.pend, x.first, x.code⟩
def pdRow (x : Px) : Array Value := #[nv x.room, x.vd, mv x.fm, nv x.made, x.vp, .int .i64 x.first, .int .i64 x.code]

def FiRows (f : Fi) (k : Nat) : Prop := f.vn.ownBlock = some k ∨ f.vs.ownBlock = some k
structure FiOk (W : World) (f : Fi) : Prop where
  row : W.heap[f.blk]? = some (.cells #[f.vn, f.vs] 113 (0, 0))
  now : W.ownsRow 0 106 64 f.vn f.now.length (f.now.flatMap secC)
  safe : W.ownsRow 0 106 64 f.vs f.safe.length (f.safe.flatMap secC)
  len : f.safe.length = f.now.length
  now64 : ∀ p ∈ f.now, p.length = 64
  safe64 : ∀ p ∈ f.safe, p.length = 64
  le : f.now.length ≤ 4096
  apart : ∀ k, f.vn.ownBlock = some k → f.vs.ownBlock ≠ some k
def Apart (f g : Fi) : Prop := f.blk ≠ g.blk ∧ ∀ k, FiRows f k → ¬ FiRows g k
structure Files (W : World) (fm : Nat) (fs : List Fi) : Prop where
  map : MapA nv pv W fm (fs.map Fi.ent)
  ok : ∀ f ∈ fs, FiOk W f
  apart : ∀ f ∈ fs, ∀ g ∈ fs, f.num ≠ g.num → Apart f g
structure Dirs (W : World) (vd : Value) (dirs : List (Nat × Dir)) : Prop where
  row : W.ownsRow 0 103 1 vd dirs.length (dirs.map fun d => mv d.1)
  map : ∀ d ∈ dirs, MapA sv nv W d.1 d.2
def Pend (W : World) (vp : Value) (pend : List Wr) : Prop := W.ownsRow 0 108 66 vp pend.length (pend.flatMap wpC)
/-- What holds of a disk, whatever was done. -/
structure WfP (x : Px) : Prop where
  room : x.room ≤ 4096
  ne : x.dirs ≠ []
  names : ∀ d ∈ x.dirs, d.2.length ≤ 8 ∧ ∀ e ∈ d.2, nameOK e.1 = true ∧ ∃ f ∈ x.fs, f.num = e.2
  nums : ∀ f ∈ x.fs, f.num ≤ x.made
  pend : ∀ w ∈ x.pend, w.p.length = 64 ∧ w.id ≤ x.made ∧ w.n < 4096 ∧ ∀ f ∈ x.fs, f.num = w.id → w.n < f.now.length
  first : -9223372036854775808 ≤ x.first ∧ x.first ≤ 9223372036854775807
  small : x.dirs.length ≤ 1000000 ∧ x.fs.length ≤ 1000000 ∧ x.pend.length ≤ 1000000 ∧ x.made ≤ 1000000
structure PD (W : World) (q : Nat) (x : Px) : Prop where
  row : W.heap[q]? = some (.cells (pdRow x) 100 (0, 0))
  dirs : Dirs W x.vd x.dirs
  files : Files W x.fm x.fs
  pend : Pend W x.vp x.pend
  fnd : ∀ d ∈ x.dirs, d.1 ≠ x.fm
  wf : WfP x

def dUse (x : Px) (k : Nat) : Prop := x.vd.ownBlock = some k ∨ ∃ d ∈ x.dirs, k = d.1
def fUse (x : Px) (k : Nat) : Prop := k = x.fm ∨ ∃ f ∈ x.fs, k = f.blk ∨ FiRows f k
def pUse (x : Px) (k : Nat) : Prop := x.vp.ownBlock = some k
/-- Blocks that its calls may write to; blocks that it is made of. -/
def mutP (q : Nat) (x : Px) (k : Nat) : Prop := k = q ∨ x.vd.ownBlock = some k ∨ fUse x k ∨ pUse x k
def useP (q : Nat) (x : Px) (k : Nat) : Prop := k = q ∨ dUse x k ∨ fUse x k ∨ pUse x k
theorem mut_use {q : Nat} {x : Px} {k : Nat} (h : mutP q x k) : useP q x k := by
  rcases h with h | h | h | h
  · exact .inl h
  · exact .inr (.inl (.inl h))
  · exact .inr (.inr (.inl h))
  · exact .inr (.inr (.inr h))

/-- What kind of block stands there. -/
def kindAt (W : World) (k : Nat) : Option (Option TypeId) := match W.heap[k]? with
  | some (.cells _ T _) => some (some T)
  | some (.map _ _) => some none
  | _ => none
theorem kind_cells {W : World} {k : Nat} {cs : Array Value} {T : TypeId} {fr : Nat × Nat} (h : W.heap[k]? = some (.cells cs T fr)) : kindAt W k = some (some T) := by unfold kindAt; rw [h]
theorem kind_map {α β : Type} {kv : α → Value} {vv : β → Value} {W : World} {b : Nat} {l : List (α × β)} (h : MapA kv vv W b l) : kindAt W b = some none := by
  obtain ⟨es, clock, hb, _⟩ := h
  unfold kindAt; rw [hb]
theorem kind_own {W : World} {B e k n : Nat} {v : Value} {xs : List Value} (h : W.ownsRow B e k v n xs) {j : Nat} (hj : v.ownBlock = some j) : kindAt W j = some (some e) := by
  rcases h.2 with ⟨rfl, h0⟩ | ⟨g, cap, cur, rfl, _, hg, _⟩
  · simp [Value.ownBlock] at hj
  · simp [Value.ownBlock] at hj
    subst hj
    exact kind_cells hg
theorem kind_lt {W : World} {k : Nat} {d : Option TypeId} (h : kindAt W k = some d) : k < W.heap.size := by
  unfold kindAt at h
  cases hk : W.heap[k]? with
  | none => rw [hk] at h; simp at h
  | some o => exact (Array.getElem?_eq_some_iff.1 hk).1

theorem FiOk.kept {W W' : World} {f : Fi} (h : FiOk W f) (hb : W'.heap[f.blk]? = W.heap[f.blk]?) (hk : ∀ k, FiRows f k → W'.heap[k]? = W.heap[k]?) : FiOk W' f :=
  ⟨hb.trans h.row, own_own h.now fun k hk' => hk k (.inl hk'), own_own h.safe fun k hk' => hk k (.inr hk'), h.len, h.now64, h.safe64, h.le, h.apart⟩
theorem FiOk.kind {W : World} {f : Fi} (h : FiOk W f) {k : Nat} (hk : FiRows f k) : kindAt W k = some (some 106) := by
  rcases hk with hk | hk
  · exact kind_own h.now hk
  · exact kind_own h.safe hk
theorem Files.kept {W W' : World} {fm : Nat} {fs : List Fi} (h : Files W fm fs) (hm : W'.heap[fm]? = W.heap[fm]?) (hk : ∀ f ∈ fs, ∀ k, k = f.blk ∨ FiRows f k → W'.heap[k]? = W.heap[k]?) : Files W' fm fs :=
  ⟨h.map.kept hm, fun f hf => (h.ok f hf).kept (hk f hf _ (.inl rfl)) fun k hk' => hk f hf k (.inr hk'), h.apart⟩
theorem Dirs.kept {W W' : World} {vd : Value} {dirs : List (Nat × Dir)} (h : Dirs W vd dirs) (hd : ∀ k, vd.ownBlock = some k → W'.heap[k]? = W.heap[k]?) (hm : ∀ d ∈ dirs, W'.heap[d.1]? = W.heap[d.1]?) : Dirs W' vd dirs :=
  ⟨own_own h.row hd, fun d hd' => (h.map d hd').kept (hm d hd')⟩

section
variable {W W' : World} {q : Nat} {x : Px}
theorem PD.kindQ (h : PD W q x) : kindAt W q = some (some 100) := kind_cells h.row
theorem PD.kindD (h : PD W q x) {k : Nat} (hk : dUse x k) : kindAt W k = some (some 103) ∨ (kindAt W k = some none ∧ ∃ d ∈ x.dirs, k = d.1) := by
  rcases hk with hk | ⟨d, hd, rfl⟩
  · exact .inl (kind_own h.dirs.row hk)
  · exact .inr ⟨kind_map (h.dirs.map d hd), d, hd, rfl⟩
theorem PD.kindF (h : PD W q x) {k : Nat} (hk : fUse x k) : kindAt W k = some (some 113) ∨ kindAt W k = some (some 106) ∨ (kindAt W k = some none ∧ k = x.fm) := by
  rcases hk with rfl | ⟨f, hf, rfl | hk⟩
  · exact .inr (.inr ⟨kind_map h.files.map, rfl⟩)
  · exact .inl (kind_cells (h.files.ok f hf).row)
  · exact .inr (.inl ((h.files.ok f hf).kind hk))
theorem PD.kindP (h : PD W q x) {k : Nat} (hk : pUse x k) : kindAt W k = some (some 108) := kind_own h.pend hk
theorem PD.ltU (h : PD W q x) {k : Nat} (hk : useP q x k) : k < W.heap.size := by
  rcases hk with rfl | hk | hk | hk
  · exact kind_lt h.kindQ
  · rcases h.kindD hk with h' | h'
    · exact kind_lt h'
    · exact kind_lt h'.1
  · rcases h.kindF hk with h' | h' | h'
    · exact kind_lt h'
    · exact kind_lt h'
    · exact kind_lt h'.1
  · exact kind_lt (h.kindP hk)
theorem PD.qD (h : PD W q x) (hk : dUse x q) : False := by
  have := h.kindQ
  rcases h.kindD hk with h' | h' <;> simp [this] at h'
theorem PD.qF (h : PD W q x) (hk : fUse x q) : False := by
  have := h.kindQ
  rcases h.kindF hk with h' | h' | h' <;> simp [this] at h'
theorem PD.qP (h : PD W q x) (hk : pUse x q) : False := by
  have := h.kindQ
  have h' := h.kindP hk
  simp [this] at h'
theorem PD.dF (h : PD W q x) {k : Nat} (hd : dUse x k) (hf : fUse x k) : False := by
  rcases h.kindD hd with h1 | ⟨h1, d, hd', rfl⟩ <;> rcases h.kindF hf with h2 | h2 | ⟨h2, h3⟩ <;> rw [h1] at h2 <;> first | (simp at h2; done) | exact h.fnd d hd' h3
theorem PD.dP (h : PD W q x) {k : Nat} (hd : dUse x k) (hp : pUse x k) : False := by
  have h2 := h.kindP hp
  rcases h.kindD hd with h1 | ⟨h1, d, hd', rfl⟩ <;> rw [h1] at h2 <;> simp at h2
theorem PD.fP (h : PD W q x) {k : Nat} (hf : fUse x k) (hp : pUse x k) : False := by
  have h2 := h.kindP hp
  rcases h.kindF hf with h1 | h1 | ⟨h1, h3⟩ <;> rw [h1] at h2 <;> simp at h2
theorem PD.kept (h : PD W q x) (hk : ∀ k, useP q x k → W'.heap[k]? = W.heap[k]?) : PD W' q x where
  row := (hk q (.inl rfl)).trans h.row
  dirs := h.dirs.kept (fun k hk' => hk k (.inr (.inl (.inl hk')))) fun d hd => hk d.1 (.inr (.inl (.inr ⟨d, hd, rfl⟩)))
  files := h.files.kept (hk x.fm (.inr (.inr (.inl (.inl rfl))))) fun f hf k hk' => hk k (.inr (.inr (.inl (.inr ⟨f, hf, hk'⟩))))
  pend := own_own h.pend fun k hk' => hk k (.inr (.inr (.inr hk')))
  fnd := h.fnd
  wf := h.wf
theorem PD.grows (h : PD W q x) (g : Grows W W') : PD W' q x := h.kept fun k hk => g.block k (h.ltU hk)
theorem PD.but {O : Nat → Prop} (h : PD W q x) (g : But O W W') (hO : ∀ k, O k → ¬ useP q x k) : PD W' q x := h.kept fun k hk => g.block k (h.ltU hk) fun ho => hO k ho hk
/-- The parts of a disk that are kept while others turn. -/
theorem PD.keepD {O : Nat → Prop} (h : PD W q x) (g : But O W W') (hO : ∀ k, O k → ¬ dUse x k) : Dirs W' x.vd x.dirs :=
  h.dirs.kept (fun k hk => g.block k (h.ltU (.inr (.inl (.inl hk)))) fun ho => hO k ho (.inl hk)) fun d hd => g.block _ (h.ltU (.inr (.inl (.inr ⟨d, hd, rfl⟩)))) fun ho => hO _ ho (.inr ⟨d, hd, rfl⟩)
theorem PD.keepF {O : Nat → Prop} (h : PD W q x) (g : But O W W') (hO : ∀ k, O k → ¬ fUse x k) : Files W' x.fm x.fs :=
  h.files.kept (g.block _ (h.ltU (.inr (.inr (.inl (.inl rfl))))) fun ho => hO _ ho (.inl rfl)) fun f hf k hk => g.block k (h.ltU (.inr (.inr (.inl (.inr ⟨f, hf, hk⟩))))) fun ho => hO k ho (.inr ⟨f, hf, hk⟩)
theorem PD.keepP {O : Nat → Prop} (h : PD W q x) (g : But O W W') (hO : ∀ k, O k → ¬ pUse x k) : Pend W' x.vp x.pend :=
  own_own h.pend fun k hk => g.block k (h.ltU (.inr (.inr (.inr hk)))) fun ho => hO k ho hk
theorem PD.cell (h : PD W q x) (i : Nat) (u : Value) (hu : (pdRow x)[i]? = some u) : W.cell? ⟨q, i, none⟩ = some u := by rw [cell_of_row W q i _ _ _ h.row, hu]
theorem PD.frozen (h : PD W q x) (i : Nat) : W.frozen? ⟨q, i, none⟩ = false := frozen_of_row W q i _ _ h.row
end

/-- What a call makes of a disk's blocks. -/
structure TurnP (q : Nat) (x x' : Px) (w w' : World) : Prop where
  muts : ∀ k, mutP q x' k → mutP q x k ∨ w.heap.size ≤ k
  uses : ∀ k, useP q x' k → useP q x k ∨ w.heap.size ≤ k
  but : But (mutP q x) w w'
theorem TurnP.refl (q : Nat) (x : Px) (w : World) : TurnP q x x w w := ⟨fun _ h => .inl h, fun _ h => .inl h, But.refl' _ _⟩
theorem TurnP.trans {q : Nat} {x x' x'' : Px} {w w' w'' : World} (h : TurnP q x x' w w') (g : TurnP q x' x'' w' w'') : TurnP q x x'' w w'' where
  muts := fun k hk => (g.muts k hk).elim (h.muts k) (fun hl => .inr (Nat.le_trans h.but.size hl))
  uses := fun k hk => (g.uses k hk).elim (h.uses k) (fun hl => .inr (Nat.le_trans h.but.size hl))
  but := ⟨g.but.os.trans h.but.os, g.but.tape.trans h.but.tape, g.but.output.trans h.but.output, Nat.le_trans h.but.size g.but.size, fun k hk hn => (g.but.block k (Nat.lt_of_lt_of_le hk h.but.size) (fun hm => (h.muts k hm).elim hn (fun hl => by omega))).trans (h.but.block k hk hn)⟩
theorem TurnP.ofGrows {q : Nat} {x : Px} {w w' : World} (h : Grows w w') : TurnP q x x w w' := ⟨fun _ h => .inl h, fun _ h => .inl h, But.ofGrows h⟩
theorem TurnP.head {q : Nat} {x x' : Px} {w w' : World} (h : But (fun k => k = q) w w') (hm : ∀ k, mutP q x' k → mutP q x k) (hu : ∀ k, useP q x' k → useP q x k) : TurnP q x x' w w' :=
  ⟨fun k hk => .inl (hm k hk), fun k hk => .inl (hu k hk), h.mono fun k hk => .inl hk⟩

/-- Its numbers alone turn. -/
theorem PD.head {W W' : World} {q : Nat} {x x' : Px} (h : PD W q x) (hr : W'.heap[q]? = some (.cells (pdRow x') 100 (0, 0))) (hB : But (fun k => k = q) W W')
    (h1 : x'.vd = x.vd ∧ x'.dirs = x.dirs ∧ x'.fm = x.fm ∧ x'.fs = x.fs ∧ x'.vp = x.vp ∧ x'.pend = x.pend) (hw : WfP x') : PD W' q x' := by
  obtain ⟨e1, e2, e3, e4, e5, e6⟩ := h1
  refine ⟨hr, ?_, ?_, ?_, ?_, hw⟩
  · rw [e1, e2]; exact h.keepD hB fun k hk hd => h.qD (hk ▸ hd)
  · rw [e3, e4]; exact h.keepF hB fun k hk hd => h.qF (hk ▸ hd)
  · rw [e5, e6]; exact h.keepP hB fun k hk hd => h.qP (hk ▸ hd)
  · rw [e2, e3]; exact h.fnd
end Go.Proofs.YtoppcpiheaedlaaGreatDoor
