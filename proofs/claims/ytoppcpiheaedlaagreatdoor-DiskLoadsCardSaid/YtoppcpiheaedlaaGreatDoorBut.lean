/-
  What may turn of a world: some blocks alone; an append in place, which spares what is owned.
-/
import Derived.Test.YtoppcpiheaedlaaGreatDoorGen
import Derived.Test.YtoppcpiheaedlaaGreatDoorKitK
import Derived.Laws.CopyRow
namespace Go.Proofs.YtoppcpiheaedlaaGreatDoor
open Go.RowKit
set_option linter.unusedVariables false
set_option linter.unusedSimpArgs false

/-- Blocks that were there and are not in O are as they were. -/
structure But (O : Nat → Prop) (w w' : World) : Prop where
  os : w'.os = w.os
  tape : w'.tape = w.tape
  output : w'.output = w.output
  size : w.heap.size ≤ w'.heap.size
  block : ∀ k, k < w.heap.size → ¬ O k → w'.heap[k]? = w.heap[k]?
theorem But.below {O : Nat → Prop} {w w' : World} {B : Nat} (h : But O w w') (hB : B ≤ w.heap.size) (hO : ∀ k, O k → B ≤ k) : Below B w w' :=
  ⟨h.os, h.tape, h.output, h.size, fun k hk => h.block k (by omega) (fun hk' => by have := hO k hk'; omega)⟩
theorem But.refl' (O : Nat → Prop) (w : World) : But O w w := ⟨rfl, rfl, rfl, Nat.le_refl _, fun _ _ _ => rfl⟩
theorem But.trans' {O : Nat → Prop} {a b c : World} (h : But O a b) (k : But O b c) : But O a c :=
  ⟨k.os.trans h.os, k.tape.trans h.tape, k.output.trans h.output, Nat.le_trans h.size k.size, fun n hn ho => (k.block n (Nat.lt_of_lt_of_le hn h.size) ho).trans (h.block n hn ho)⟩
theorem But.ok (O : Nat → Prop) : ExtOk (But O) := ⟨But.refl' O, fun h k => But.trans' h k, fun w => ⟨rfl, rfl, rfl, Nat.le_refl _, fun _ _ _ => rfl⟩⟩
theorem But.ofGrows {O : Nat → Prop} {a b : World} (h : Grows a b) : But O a b := ⟨h.os, h.tape, h.output, h.size, fun k hk _ => h.block k hk⟩
theorem But.mono {O O' : Nat → Prop} {a b : World} (h : But O a b) (hO : ∀ k, O k → O' k) : But O' a b := ⟨h.os, h.tape, h.output, h.size, fun k hk hn => h.block k hk (fun h' => hn (hO k h'))⟩
theorem But.cell {O : Nat → Prop} {a b : World} (h : But O a b) {p : Addr} {v : Value} (hn : ¬ O p.block) (hc : a.cell? p = some v) : b.cell? p = some v :=
  (World.cell?_of_block (h.block p.block (World.block_lt_of_cell? a p hc) hn)).trans hc
theorem But.blockEq {O : Nat → Prop} {W W' : World} (h : But O W W') {k : Nat} {o : Obj} (hk : ¬ O k) (ho : W.heap[k]? = some o) : W'.heap[k]? = some o :=
  (h.block k (Array.getElem?_eq_some_iff.1 ho).1 hk).trans ho
theorem But.setCell {O : Nat → Prop} {a b : World} (h : But O a b) (p : Addr) (v : Value) (ho : O p.block) : But O a (b.setCell p v) :=
  ⟨h.os, h.tape, h.output, by simpa [World.setCell] using h.size, fun k hk hn => by rw [Below.heap_setCell _ _ _ _ (fun e => hn (by first | (rw [e]; exact ho) | (rw [← e]; exact ho)))]; exact h.block k hk hn⟩
theorem But.setRow {O : Nat → Prop} {a b : World} (h : But O a b) (g : Nat) (C : Array Value) (ho : O g) : But O a (b.setRow g C) :=
  ⟨h.os, h.tape, h.output, by have := h.size; simpa [World.setRow] using this, fun k hk hn => by rw [setRow_other b g k C (fun e => hn (by rw [e]; exact ho))]; exact h.block k hk hn⟩
theorem But.grown {O : Nat → Prop} {a b : World} {r : Option Nat} (h : a.grownBy b r) (hr : ∀ k, r = some k → O k) : But O a b :=
  ⟨h.os, h.tape, h.output, h.size, fun k hk hn => h.block k hk (fun e => hn (hr k (by first | exact e | exact e.symm)))⟩
/-- A slice whose cells do not lie in O. -/
def Outside (O : Nat → Prop) (v : Value) : Prop := ∀ b off sp n c, v = .slice (some ⟨b, off, sp⟩) n c → n ≠ 0 → ¬ O b
theorem Byt.but {O : Nat → Prop} {a b : World} {v : Value} {l : List UInt8} (h : Byt a v l) (g : But O a b) (ho : Outside O v) : Byt b v l := by
  obtain ⟨ad, cap, rfl, h1, h2, h3, h4⟩ := h
  refine ⟨ad, cap, rfl, h1, h2, h3, h4.imp id ?_⟩
  rintro ⟨bb, off, rfl, hc⟩
  by_cases h0 : l.length = 0
  · exact ⟨bb, off, rfl, fun i hi => by omega⟩
  · exact ⟨bb, off, rfl, fun i hi => g.cell (ho bb off none _ _ rfl h0) (hc i hi)⟩

theorem own_but {O : Nat → Prop} {e k B n : Nat} {xs : List Value} {v : Value} {a b : World} (h : a.ownsRow B e k v n xs) (g : But O a b) (ho : ∀ j, v.ownBlock = some j → ¬ O j) : b.ownsRow B e k v n xs := by
  refine ⟨h.1, ?_⟩
  rcases h.2 with h' | ⟨c, cap, cur, rfl, hb, hg, rest⟩
  · exact .inl h'
  · exact .inr ⟨c, cap, cur, rfl, hb, g.blockEq (ho c rfl) hg, rest⟩
theorem own_grows {e k B n : Nat} {xs : List Value} {v : Value} {a b : World} (h : a.ownsRow B e k v n xs) (g : Grows a b) : b.ownsRow B e k v n xs :=
  own_but (O := fun _ => False) h (But.ofGrows g) (fun _ _ h => h)

/-- What is owned is owned still, as long as it is one of these. -/
def Spared (e k : Nat) (l : List (Nat × List Value)) (a b : World) : Prop := ∀ p ∈ l, ∀ v, a.ownsRow 0 e k v p.1 p.2 → b.ownsRow 0 e k v p.1 p.2
structure EApp (O : Nat → Prop) (e k : Nat) (l : List (Nat × List Value)) (a b : World) : Prop where
  but : But O a b
  spared : Spared e k l a b
theorem EApp.ok (O : Nat → Prop) (e k : Nat) (l : List (Nat × List Value)) : ExtOk (EApp O e k l) where
  refl := fun w => ⟨But.refl' O w, fun _ _ _ h => h⟩
  trans := fun h1 h2 => ⟨h1.but.trans' h2.but, fun p hp v h => h2.spared p hp v (h1.spared p hp v h)⟩
  drew := fun w => ⟨⟨rfl, rfl, rfl, Nat.le_refl _, fun _ _ _ => rfl⟩, fun _ _ _ h => h⟩
theorem EApp.ofGrows {O : Nat → Prop} {e k : Nat} {l : List (Nat × List Value)} {a b : World} (h : Grows a b) : EApp O e k l a b := ⟨But.ofGrows h, fun _ _ _ ho => own_grows ho h⟩
theorem EApp.own {O : Nat → Prop} {e k n : Nat} {xs : List Value} {l : List (Nat × List Value)} (hl : (n, xs) ∈ l) (v : Value) (a b : World) (h : EApp O e k l a b) (ho : a.ownsRow 0 e k v n xs) : b.ownsRow 0 e k v n xs := h.spared _ hl v ho

/-- An append onto what is owned, and what it spares. -/
theorem run_append_x {P : Program} (w : World) (t ty e : TypeId) (i : TypeInfo) (z : Value) (size bytes : Nat) (ht : P.underlying t = some (.slice e)) (hi : P.info? e = some i) (hz : i.zero = some z)
    (hsize : i.size = size) (hby : i.bytes = bytes) (hzs : z.cells.size = size) (hsz : 0 < size)
    (v : Value) (n : Nat) (xs : List Value) (hown : w.ownsRow 0 e size v n xs)
    (a : Addr) (m c : Nat) (news : List Value) (hl : news.length = m * size) (hnews : ∀ j u, news[j]? = some u → w.cell? (a.add j) = some u) (h1 : ∀ u ∈ news, u.oneCell' = true)
    (h63 : n + m ≤ maxLen) (hbytes : (n + m) * bytes ≤ 140737488355328) (ls : List (Nat × List Value)) (hls : ∀ p ∈ ls, p.1 ≤ n ∨ (p.1 ≤ n + m ∧ p.2 = (xs ++ news).take (p.1 * size))) :
    ∃ v' w', (Builtin.append_ #[t, t] ty #[v, .slice (some a) m c]).run P w = .ok v' w' ∧ w'.ownsRow 0 e size v' (n + m) (xs ++ news) ∧ w.grownBy w' v.ownBlock ∧
      (v'.ownBlock = v.ownBlock ∨ v'.ownBlock = some w.heap.size) ∧ Spared e size ls w w' := by
  subst hsize
  subst hby
  have hsmall : n + m ≤ 9223372036854775807 := by simp only [maxLen] at h63; omega
  have hlen : (xs ++ news).length = (n + m) * i.size := by rw [List.length_append, hown.1, hl, Nat.add_mul]
  have grown : ∀ (old : Nat), old < n + m → ∀ (row : Option Nat),
      (w.drew.alloc (.cells (xs.toArray ++ news.toArray ++ Builtin.zeroCells z.cells (grownCap w (n + m) old e - (n + m))) e)).ownsRow 0 e i.size
        (.slice (some ⟨w.heap.size, 0, none⟩) (n + m) (grownCap w (n + m) old e)) (n + m) (xs ++ news) ∧
      w.grownBy (w.drew.alloc (.cells (xs.toArray ++ news.toArray ++ Builtin.zeroCells z.cells (grownCap w (n + m) old e - (n + m))) e)) row ∧
      Spared e i.size ls w (w.drew.alloc (.cells (xs.toArray ++ news.toArray ++ Builtin.zeroCells z.cells (grownCap w (n + m) old e - (n + m))) e)) := by
    intro old ho row
    have hge := grownCap_ge w (n + m) old e
    have hcm : grownCap w (n + m) old e ≤ maxLen := grownCap_le_maxLen w (n + m) old e h63
    refine ⟨⟨hlen, .inr ⟨w.heap.size, _, _, rfl, Nat.zero_le _, heap_alloc_new w.drew _, hge, hcm, ?_, ?_⟩⟩, ⟨rfl, rfl, rfl, by simp, fun k hk _ => heap_alloc_old w.drew _ hk⟩, ?_⟩
    · simp only [Array.size_append, List.size_toArray, size_zeroCells, hzs, hown.1, hl, ← Nat.add_mul]
      congr 1
      omega
    · simp only [Array.toList_append, List.append_assoc]
      rw [← List.append_assoc, ← hlen]
      exact List.take_left
    · intro p _ u hu
      exact own_grows hu ((Below.refl _ _).drew.alloc (Nat.le_refl _) _)
  rcases hown.2 with ⟨rfl, rfl⟩ | ⟨g, cap, cur, rfl, hbg, hg, hnc, hcm, hcs, htake⟩
  · have hx : xs = [] := List.eq_nil_of_length_eq_zero (by simpa using hown.1)
    subst hx
    by_cases hm : m = 0
    · subst hm
      have hn : news = [] := List.eq_nil_of_length_eq_zero (by simpa using hl)
      subst hn
      refine ⟨.slice none 0 0, w, ?_, World.ownsRow_nil w 0 e i.size, ⟨rfl, rfl, rfl, Nat.le_refl _, fun _ _ _ => rfl⟩, .inl rfl, fun _ _ _ h => h⟩
      simp [Builtin.append_, run_underlying ht, sizeOf, typeInfo, hi, Builtin.lenOf, Builtin.firstCells, loadCells, loadCellsFrom]
    · have hr := run_append_nil (P := P) w t ty e i z ht hi hz a m c news hl hnews (by omega) (by omega) (by have hb := hbytes; simp only [Nat.zero_add] at hb; omega)
      have hgr := grown 0 (by omega) (Value.ownBlock (.slice none 0 0))
      simp only [Nat.zero_add, List.nil_append, Array.empty_append] at hgr ⊢
      exact ⟨_, _, hr, hgr.1, hgr.2.1, .inr rfl, hgr.2.2⟩
  · by_cases hroom : n + m ≤ cap
    · have hfit : n * i.size + news.length ≤ cur.size := by rw [hl, hcs, ← Nat.add_mul]; exact Nat.mul_le_mul_right _ hroom
      have hr := run_append_room (P := P) w t ty e i ht hi g n cap cur hg a m c news hl hnews h1 hroom hfit
      have hsame : (cur.toList.take (n * i.size) ++ news ++ cur.toList.drop (n * i.size + news.length)).toArray.size = cap * i.size := by
        simp only [List.size_toArray, List.length_append, List.length_take, List.length_drop, Array.length_toList]
        omega
      have hfull : ((cur.toList.take (n * i.size) ++ news ++ cur.toList.drop (n * i.size + news.length)).toArray.toList.take ((n + m) * i.size)) = xs ++ news := by
        rw [htake, ← hlen]
        exact List.take_left
      refine ⟨_, _, hr, ⟨hlen, .inr ⟨g, cap, _, rfl, hbg, setRow_heap w g cur _ e _ hg, hroom, hcm, hsame, hfull⟩⟩, ⟨rfl, rfl, rfl, by simp, fun k _ hk => setRow_other w g k _ (fun e => hk (by simp [Value.ownBlock, e]))⟩, .inl rfl, ?_⟩
      intro p hp u hu
      rcases hu.2 with h' | ⟨g', cap', cur', rfl, hb', hg', hn', hc', hs', ht'⟩
      · exact ⟨hu.1, .inl h'⟩
      · by_cases hgg : g' = g
        · subst hgg
          rw [hg] at hg'
          simp only [Option.some.injEq, Obj.cells.injEq] at hg'
          obtain ⟨rfl, -⟩ := hg'
          refine ⟨hu.1, .inr ⟨g', cap', _, rfl, hb', setRow_heap w g' cur _ e _ hg, hn', hc', ?_, ?_⟩⟩
          · rw [hsame, ← hcs, hs']
          · rcases hls p hp with h' | ⟨h', h''⟩
            · rw [← ht']
              simp only [List.append_assoc]
              have hle : p.1 * i.size ≤ n * i.size := Nat.mul_le_mul_right _ h'
              rw [List.take_append_of_le_length (by simp only [List.length_take, Array.length_toList]; omega)]
              rw [List.take_take, Nat.min_eq_left hle]
            · have hle : p.1 * i.size ≤ (n + m) * i.size := Nat.mul_le_mul_right _ h'
              rw [h'', ← hfull, List.take_take, Nat.min_eq_left hle]
        · exact ⟨hu.1, .inr ⟨g', cap', cur', rfl, hb', by rw [setRow_other w g g' _ hgg]; exact hg', hn', hc', hs', ht'⟩⟩
    · have holds : ∀ j u, xs[j]? = some u → w.cell? ((⟨g, 0, none⟩ : Addr).add j) = some u := hown.cells (g := g) rfl
      have hr := run_append_grow (P := P) w t ty e i z ht hi hz ⟨g, 0, none⟩ n cap xs hown.1 holds a m c news hl hnews (by omega) (by omega) (growslice_fits (by omega) hbytes)
      have hgr := grown cap (by omega) (Value.ownBlock (.slice (some ⟨g, 0, none⟩) n cap))
      exact ⟨_, _, hr, hgr.1, hgr.2.1, .inr rfl, hgr.2.2⟩
/-- The same onto nothing but with nothing to add: a nil source. -/
theorem EApp.ofAppend {O : Nat → Prop} {e k : Nat} {l : List (Nat × List Value)} {w w' : World} {v : Value} (hg : w.grownBy w' v.ownBlock) (hO : ∀ j, v.ownBlock = some j → O j) (hs : Spared e k l w w') : EApp O e k l w w' :=
  ⟨But.grown hg hO, hs⟩

section
variable {P : Program} {ops : Array Oper} {a0 : Act} {w0 : World} {Q : Exit → Act → World → Prop} {E : World → World → Prop}
/-- A drawn region in which some operations turn what E lets turn, the last one (a store) by itself. -/
theorem region_K_last {id : Nat} (hE : ExtOk E) (hEG : ∀ {a b}, Grows a b → E a b) (last : Nat) (pre org : Array (List Nat)) (run : Array Bool) (specs : Array (SpecK E)) (T : StateK)
    (hks : ∀ i s W W', i ∉ T.kl.getD s [] → T.made.getD s none ≠ some i → T.rel E i W W' → T.Ψ s W → T.Ψ s W') (hi : ∀ s, T.made.getD s none = none → T.Ψ s { w0 with drawn := w0.drawn + 1 })
    (hm : P.follows .mixedOrders = true) (hchk : regionChk ops a0.tmps.size last pre org run = true) (hkd : T.chk ops.size pre = true)
    (hg : guardChkK ops run specs = true) {o : Oper} (ho : ops[last]? = some o)
    (hs : AllReq (fun i => if i = last then True else StepReqK E T P ops pre org run (phiK specs) a0 w0 i) (List.range ops.size))
    (hlast : ∀ a W, AllButK E T ops last (phiK specs) a0 w0 a W → StepOk P o a.eval W (fun v W' => Q .normal (a.put o.dst v) W')) :
    (Code.region id ops true).wp P Q a0 w0 := by
  refine wp_region_any hm ?_
  rw [anyOf_wpAny]
  exact facts_anyK (last := last) (Φ := phiK specs) hE (opRule_plain P ops Q) hchk (fun _ _ _ _ g h => SpecK.ext g h) hEG hks hkd (guards_okK hg) hs (fun o' ho' => by rw [ho] at ho'; obtain rfl := Option.some.inj ho'; exact hlast) (fun h => by have := (Array.getElem?_eq_some_iff.1 ho).1; omega) ops.size _ a0 _ (by simp) (by simp) (rinv0K hE hi)
end
/-- Nothing that is said of the world. -/
def noState (muts : List Nat) : StateK := { Ψ := fun _ _ => True, made := #[], kl := #[], use := #[], muts := muts }
end Go.Proofs.YtoppcpiheaedlaaGreatDoor
