/-
  DiskSafe: the rows of strings, one for each sector.
-/
import Derived.Test.YtoppcpiheaedlaaDoorSa
import Derived.Test.YtoppcpiheaedlaaDoorRow
namespace Go.Proofs.YtoppcpiheaedlaaDoor
open Go.RowKit
set_option linter.unusedVariables false
set_option linter.unusedSimpArgs false

def strs (l : List Sec) : List Value := l.map sv
/-- The rows of strings: block g; none of them is one of O's. -/
structure Might (B : Nat) (W : World) (O : Nat → Prop) (g : Nat) (vs : List Value) (M : List (List Sec)) : Prop where
  lv : vs.length = 8
  lm : M.length = 8
  row : W.heap[g]? = some (.cells vs.toArray 36 (0, 0))
  own : ∀ i, i < 8 → W.ownsRow 0 9 1 (vs.getD i undef) (M.getD i []).length (strs (M.getD i []))
  out : ∀ i, i < 8 → ∀ k, (vs.getD i undef).ownBlock = some k → ¬ O k ∧ B ≤ k
  gout : ¬ O g ∧ B ≤ g
  apart : ∀ i j, i < 8 → j < 8 → i ≠ j → ∀ k, (vs.getD i undef).ownBlock = some k → (vs.getD j undef).ownBlock ≠ some k
theorem Might.turn {B : Nat} {W W' : World} {q : Nat} {x x' : Px} {g : Nat} {vs : List Value} {M : List (List Sec)} (h : Might B W (mutP q x) g vs M) (hT : TurnP q x x' W W') : Might B W' (mutP q x') g vs M where
  lv := h.lv
  lm := h.lm
  row := hT.but.blockEq h.gout.1 h.row
  own := fun i hi => own_but (h.own i hi) hT.but fun j hj => (h.out i hi j hj).1
  out := fun i hi k hk => ⟨(hT.keepOut (own_lt (h.own i hi) k hk) (h.out i hi k hk).1).1, (h.out i hi k hk).2⟩
  gout := ⟨(hT.keepOut (Array.getElem?_eq_some_iff.1 h.row).1 h.gout.1).1, h.gout.2⟩
  apart := h.apart
theorem Might.grows {B : Nat} {W W' : World} {O : Nat → Prop} {g : Nat} {vs : List Value} {M : List (List Sec)} (h : Might B W O g vs M) (hG : Grows W W') : Might B W' O g vs M where
  lv := h.lv
  lm := h.lm
  row := hG.heap' h.row
  own := fun i hi => own_grows (h.own i hi) hG
  out := h.out
  gout := h.gout
  apart := h.apart
theorem Might.cell {B : Nat} {W : World} {O : Nat → Prop} {g : Nat} {vs : List Value} {M : List (List Sec)} (h : Might B W O g vs M) (i : Nat) (hi : i < 8) : W.cell? ⟨g, i, none⟩ = some (vs.getD i undef) := by
  rw [cell_of_row W g i _ _ _ h.row]
  have := h.lv
  simp [List.getD, show i < vs.length by omega]
theorem Might.frozen {B : Nat} {W : World} {O : Nat → Prop} {g : Nat} {vs : List Value} {M : List (List Sec)} (h : Might B W O g vs M) (i : Nat) : W.frozen? ⟨g, i, none⟩ = false := frozen_of_row W g i _ _ h.row
theorem set_getD {α : Type} (l : List α) (i j : Nat) (a d : α) (hi : i < l.length) : (l.set i a).getD j d = if i = j then a else l.getD j d := by
  by_cases e : i = j
  · subst e; simp [List.getD, hi]
  · simp [List.getD, List.getElem?_set, e]
/-- One of the rows turns: what is stored is a row of its own or the same one. -/
theorem Might.put {B : Nat} {W W1 : World} {O : Nat → Prop} {g : Nat} {vs : List Value} {M : List (List Sec)} (h : Might B W O g vs M) (i : Nat) (hi : i < 8) (v : Value) (l : List Sec)
    (hB : But (fun k => (vs.getD i undef).ownBlock = some k) W W1) (ho : W1.ownsRow 0 9 1 v l.length (strs l)) (hat : v.ownBlock = (vs.getD i undef).ownBlock ∨ ∀ k, v.ownBlock = some k → W.heap.size ≤ k)
    (hO : ∀ k, O k → k < W.heap.size) (hBW : B ≤ W.heap.size) : Might B (W1.setCell ⟨g, i, none⟩ v) O g (vs.set i v) (M.set i l) := by
  have hlv := h.lv
  have hlm := h.lm
  have hgne : ∀ j, j < 8 → (vs.getD j undef).ownBlock ≠ some g := fun j hj => own_ne (h.own j hj) h.row (by decide)
  have hrow1 : W1.heap[g]? = _ := hB.blockEq (hgne i hi) h.row
  have hvg : v.ownBlock ≠ some g := own_ne ho hrow1 (by decide)
  have hS : But (fun k => k = g) W1 (W1.setCell ⟨g, i, none⟩ v) := But.setCell (But.refl' (fun k => k = g) _) _ _ rfl
  have hgl : g < W.heap.size := (Array.getElem?_eq_some_iff.1 h.row).1
  refine ⟨by simpa using hlv, by simpa using hlm, ?_, ?_, ?_, h.gout, ?_⟩
  · rw [row_setCell hrow1 i v]
    simp
  · intro j hj
    rw [set_getD _ _ _ _ _ (by omega), set_getD _ _ _ _ _ (by omega)]
    by_cases e : i = j
    · rw [if_pos e, if_pos e]
      exact own_but ho hS fun k hk e2 => hvg (by rw [hk, e2])
    · rw [if_neg e, if_neg e]
      exact own_but (own_but (h.own j hj) hB fun k hk hn => h.apart i j hi hj e k hn hk) hS fun k hk e2 => hgne j hj (by rw [hk, e2])
  · intro j hj k hk
    rw [set_getD _ _ _ _ _ (by omega)] at hk
    by_cases e : i = j
    · rw [if_pos e] at hk
      rcases hat with h' | h'
      · exact h.out i hi k (h'.symm.trans hk)
      · have := h' k hk
        exact ⟨fun ho => by have := hO k ho; omega, by omega⟩
    · rw [if_neg e] at hk
      exact h.out j hj k hk
  · intro a b ha hb hab k hk
    rw [set_getD _ _ _ _ _ (by omega)] at hk ⊢
    by_cases e : i = a
    · rw [if_pos e] at hk
      have hb' : i ≠ b := fun h => hab (e.symm.trans h)
      rw [if_neg hb']
      rcases hat with h' | h'
      · exact h.apart i b hi hb hb' k (h'.symm.trans hk)
      · intro hk2
        have := h' k hk
        have := own_lt (h.own b hb) k hk2
        omega
    · rw [if_neg e] at hk
      by_cases e2 : i = b
      · rw [if_pos e2]
        rcases hat with h' | h'
        · intro hk2
          exact h.apart a i ha hi (fun h => e h.symm) k hk (h'.symm.trans hk2)
        · intro hk2
          have := h' k hk2
          have := own_lt (h.own a ha) k hk
          omega
      · rw [if_neg e2]
        exact h.apart a b ha hb hab k hk
/-- Rows that were just made. -/
theorem Might.new {B : Nat} {W : World} {O : Nat → Prop} {g : Nat} (hr : W.heap[g]? = some (.cells (List.replicate 8 (.slice none 0 0)).toArray 36 (0, 0))) (hg : ¬ O g) (hB : B ≤ g) : Might B W O g (List.replicate 8 (.slice none 0 0)) (List.replicate 8 []) where
  lv := rfl
  lm := rfl
  row := hr
  own := fun i hi => by
    have e1 : (List.replicate 8 (Value.slice none 0 0)).getD i undef = .slice none 0 0 := by rw [List.getD, List.getElem?_replicate, if_pos hi]; rfl
    have e2 : (List.replicate 8 ([] : List Sec)).getD i [] = [] := by rw [List.getD, List.getElem?_replicate, if_pos hi]; rfl
    rw [e1, e2]
    exact World.ownsRow_nil _ _ _ _
  out := fun i hi k hk => by
    have e1 : (List.replicate 8 (Value.slice none 0 0)).getD i undef = .slice none 0 0 := by rw [List.getD, List.getElem?_replicate, if_pos hi]; rfl
    rw [e1] at hk
    simp [Value.ownBlock] at hk
  gout := ⟨hg, hB⟩
  apart := fun i j hi hj hij k hk => by
    have e1 : (List.replicate 8 (Value.slice none 0 0)).getD i undef = .slice none 0 0 := by rw [List.getD, List.getElem?_replicate, if_pos hi]; rfl
    rw [e1] at hk
    simp [Value.ownBlock] at hk
theorem one_string (W : World) (s : Sec) : (W.alloc (.cells #[sv s] 9)).ownsRow 0 9 1 (.slice (some ⟨W.heap.size, 0, none⟩) 1 1) [s].length (strs [s]) :=
  ⟨rfl, .inr ⟨W.heap.size, 1, _, rfl, Nat.zero_le _, heap_alloc_new W _, Nat.le_refl _, by simp [maxLen], rfl, rfl⟩⟩
/-- What a law's slice of slices of bytes holds at a place. -/
theorem BytL.at {W : World} {a : Option Addr} {n cap : Nat} {ls : List (List UInt8)} (h : BytL W (.slice a n cap) ls) (i : Nat) (hi : i < ls.length) : ∃ b off ea ec, a = some ⟨b, off, none⟩ ∧ W.cell? ⟨b, off + i, none⟩ = some (.slice ea (ls.getD i []).length ec) ∧ Byt W (.slice ea (ls.getD i []).length ec) (ls.getD i []) := by
  obtain ⟨a', cap', e, h1, h2, h3, h4⟩ := h
  simp only [Value.slice.injEq] at e
  obtain ⟨rfl, rfl, rfl⟩ := e
  rcases h4 with h4 | ⟨b, off, rfl, hc⟩
  · rw [h4] at hi; simp at hi
  · obtain ⟨u, hu, hb⟩ := hc i hi
    obtain ⟨ea, ec, rfl⟩ := hb.slice
    exact ⟨b, off, ea, ec, rfl, hu, hb⟩
theorem IntS.at {W : World} {a : Option Addr} {n cap : Nat} {l : List Int} (h : IntS W (.slice a n cap) l) (i : Nat) (hi : i < l.length) : ∃ b off, a = some ⟨b, off, none⟩ ∧ W.cell? ⟨b, off + i, none⟩ = some (.int .i64 (l.getD i 0)) := by
  obtain ⟨a', cap', e, h4⟩ := h
  simp only [Value.slice.injEq] at e
  obtain ⟨rfl, rfl, rfl⟩ := e
  rcases h4 with h4 | ⟨b, off, rfl, hc⟩
  · rw [h4] at hi; simp at hi
  · exact ⟨b, off, rfl, hc i hi⟩
/-- A block of another kind is none of the disk's. -/
theorem PD.notUse {W : World} {q : Nat} {x : Px} (h : PD W q x) {k : Nat} {T : TypeId} (hk : kindAt W k = some (some T)) (h1 : T ≠ 62) (h2 : T ≠ 55) (h3 : T ≠ 72) (h4 : T ≠ 66) (h5 : T ≠ 68) : ¬ useP q x k := by
  intro hu
  rcases hu with rfl | hu | hu | hu
  · have := h.kindQ; rw [hk] at this; simp at this; exact h1 this
  · rcases h.kindD hu with h' | h'
    · rw [hk] at h'; simp at h'; exact h2 h'
    · have := h'.1; rw [hk] at this; simp at this
  · rcases h.kindF hu with h' | h' | h'
    · rw [hk] at h'; simp at h'; exact h3 h'
    · rw [hk] at h'; simp at h'; exact h4 h'
    · have := h'.1; rw [hk] at this; simp at this
  · have := h.kindP hu; rw [hk] at this; simp at this; exact h5 this
theorem Mine.but {O : Nat → Prop} {w wr w' : World} {q : Nat} {x : Px} {s : Ps} (h : Mine w q x s wr) (hw : 0 < w.heap.size) (g : But O wr w') (hO : ∀ k, O k → ¬ useP q x k ∧ w.heap.size ≤ k) : Mine w q x s w' where
  li := ⟨h.li.pd.but g fun k hk => (hO k hk).1, h.li.ek.but g fun h0 => by have := (hO 0 h0).2; omega, h.li.n0⟩
  s := h.s
  gr := Below.trans h.gr (g.below h.gr.size fun k hk => (hO k hk).2)
  us := h.us
theorem Mine.outside {w wr : World} {q : Nat} {x : Px} {s : Ps} (h : Mine w q x s wr) {v : Value} {l : List UInt8} (hb : Byt w v l) : Outside (mutP q x) v := by
  intro b off sp n c e hn hm
  obtain ⟨a, cap, e2, _, _, _, h4⟩ := hb
  rw [e2] at e
  simp only [Value.slice.injEq] at e
  obtain ⟨rfl, e3, _⟩ := e
  rcases h4 with h4 | ⟨b', off', e4, hc⟩
  · rw [h4] at e3; exact hn (by simpa using e3.symm)
  · simp only [Option.some.injEq, Addr.mk.injEq] at e4
    have := hc 0 (by omega)
    have h5 := World.block_lt_of_cell? w _ this
    have h6 := h.us b (mut_use hm)
    rw [e4.1] at h6
    exact absurd h5 (by simpa using h6)
theorem Mine.outsideI {w wr : World} {q : Nat} {x : Px} {s : Ps} (h : Mine w q x s wr) {v : Value} {l : List Int} (hb : IntS w v l) : Outside (mutP q x) v := by
  intro b off sp n c e hn hm
  obtain ⟨a, cap, e2, h4⟩ := hb
  rw [e2] at e
  simp only [Value.slice.injEq] at e
  obtain ⟨rfl, e3, _⟩ := e
  rcases h4 with h4 | ⟨b', off', e4, hc⟩
  · rw [h4] at e3; exact hn (by simpa using e3.symm)
  · simp only [Option.some.injEq, Addr.mk.injEq] at e4
    have := hc 0 (by omega)
    have h5 := World.block_lt_of_cell? w _ this
    have h6 := h.us b (mut_use hm)
    rw [e4.1] at h6
    exact absurd h5 (by simpa using h6)
theorem row_of_own {W : World} {B e g n : Nat} {xs : List Value} (h : W.ownsRow B e 1 (.slice (some ⟨g, 0, none⟩) n n) n xs) : W.heap[g]? = some (.cells xs.toArray e (0, 0)) ∧ B ≤ g := by
  rcases h.2 with ⟨h1, _⟩ | ⟨g', cap, cur, e1, h2, h3, _, _, h4, h5⟩
  · simp at h1
  · simp only [Value.slice.injEq, Option.some.injEq, Addr.mk.injEq] at e1
    obtain ⟨⟨rfl, -, -⟩, -, rfl⟩ := e1
    rw [List.take_of_length_le (by rw [Array.length_toList, h4]; exact Nat.le_refl _)] at h5
    rw [← h5]
    exact ⟨by simpa using h3, h2⟩
/-- The first loop. -/
structure Sf1 (w : World) (q : Nat) (x : Px) (now : List Sec) (pend : List Wr) (g : Nat) (vs : List Value) (M : List (List Sec)) (k : Nat) (wr : World) : Prop where
  mine : Mine w q x (sF now z8 pend) wr
  might : Might w.heap.size wr (mutP q x) g vs M
  ln : now.length = 8
  old : ∀ i, i < k → M.getD i [] = [now.getD i []]
  new : ∀ i, k ≤ i → i < 8 → now.getD i [] = zero64
  few : pend.length ≤ k
  ids : ∀ w ∈ pend, w.id = 1
/-- The second loop. -/
structure Sf2 (w : World) (q : Nat) (x : Px) (A now : List Sec) (pend : List Wr) (g : Nat) (vs : List Value) (M : List (List Sec)) (k : Nat) (wr : World) : Prop where
  mine : Mine w q x (sF now A pend) wr
  might : Might w.heap.size wr (mutP q x) g vs M
  may : May A now pend M
  few : pend.length ≤ k
  short : ∀ i, i < 8 → (M.getD i []).length ≤ k + 1
/-- The third loop. -/
structure Sf3 (w : World) (q : Nat) (x : Px) (S : List Sec) (g : Nat) (vs : List Value) (M : List (List Sec)) (wr : World) : Prop where
  mine : Mine w q x (sF S S []) wr
  might : Might w.heap.size wr (mutP q x) g vs M
  ls : S.length = 8
  mem : ∀ i, i < 8 → S.getD i [] ∈ M.getD i []
  short : ∀ i, i < 8 → (M.getD i []).length ≤ 9
/-- A new row of one string, stored. -/
theorem Might.one {w wr : World} {q : Nat} {x : Px} {s : Ps} {g : Nat} {vs : List Value} {M : List (List Sec)} (hm : Mine w q x s wr) (h : Might w.heap.size wr (mutP q x) g vs M) (hw : 0 < w.heap.size) (k : Nat) (hk : k < 8) (p : Sec) :
    Mine w q x s ((wr.alloc (.cells #[sv p] 9)).setCell ⟨g, k, none⟩ (.slice (some ⟨wr.heap.size, 0, none⟩) 1 1)) ∧
      Might w.heap.size ((wr.alloc (.cells #[sv p] 9)).setCell ⟨g, k, none⟩ (.slice (some ⟨wr.heap.size, 0, none⟩) 1 1)) (mutP q x) g (vs.set k (.slice (some ⟨wr.heap.size, 0, none⟩) 1 1)) (M.set k [p]) := by
  have hG := Grows.alloc' wr (.cells #[sv p] 9)
  refine ⟨(hm.grows hG).but hw (But.setCell (But.refl' (fun k => k = g) _) _ _ rfl) fun j hj => ?_, h.put k hk _ [p] (But.ofGrows hG) (one_string wr p) (.inr fun j hj => ?_) (fun j hj => hm.li.pd.ltU (mut_use hj)) hm.gr.size⟩
  · rw [hj]
    exact ⟨hm.li.pd.notUse (kind_cells h.row) (by decide) (by decide) (by decide) (by decide) (by decide), h.gout.2⟩
  · simp [Value.ownBlock] at hj
    omega
theorem set_self {l : List Sec} {k : Nat} {a : Sec} (h : l.getD k [] = a) (hk : k < l.length) : l.set k a = l := by
  rw [← h]
  apply List.ext_getElem?
  intro i
  rw [List.getElem?_set]
  by_cases e : k = i
  · subst e; simp [hk]
  · rw [if_neg e]
theorem Sf1.next {w wr : World} {q : Nat} {x x' : Px} {now : List Sec} {pend pend' : List Wr} {g : Nat} {vs vs' : List Value} {M : List (List Sec)} {k : Nat} {wq : World} (h : Sf1 w q x now pend g vs M k wr) (hk : k < 8) (p : Sec)
    (hm : Mine w q x' (sF (now.set k p) z8 pend') wq) (hq : Might w.heap.size wq (mutP q x') g vs' (M.set k [p])) (hp : ∀ w ∈ pend', w.id = 1) (hf : pend'.length ≤ k + 1) : Sf1 w q x' (now.set k p) pend' g vs' (M.set k [p]) (k + 1) wq where
  mine := hm
  might := hq
  ln := by rw [List.length_set]; exact h.ln
  old := fun i hi => by
    have hl := h.ln
    have hl2 := h.might.lm
    rw [set_getD _ _ _ _ _ (by omega), set_getD _ _ _ _ _ (by omega)]
    by_cases e : k = i
    · rw [if_pos e, if_pos e]
    · rw [if_neg e, if_neg e]; exact h.old i (by omega)
  new := fun i hi h8 => by
    have hl := h.ln
    rw [set_getD _ _ _ _ _ (by omega), if_neg (by omega)]
    exact h.new i (by omega) h8
  few := hf
  ids := hp
theorem Sf1.may {w wr : World} {q : Nat} {x : Px} {now : List Sec} {pend : List Wr} {g : Nat} {vs : List Value} {M : List (List Sec)} (h : Sf1 w q x now pend g vs M 8 wr) : May now now [] M ∧ ∀ i, i < 8 → (M.getD i []).length ≤ 1 :=
  ⟨⟨h.ln, h.ln, h.might.lm, fun i hi => by rw [h.old i hi]; simp, fun w hw => by simp at hw⟩, fun i hi => by rw [h.old i hi]; simp⟩
end Go.Proofs.YtoppcpiheaedlaaDoor
