/-
  The verifier's own kit, over whatever program: what a slice of bytes reads as ('Byt'), what a call owns ('Own'); conversions to strings, appends, literals, slices of slices of bytes, by what they read as.
-/
import Derived.Test.YtoppcpiheaedlaaGreatDoorKit
import Derived.Laws.AppendOwn
import Derived.Laws.AppendOwnNone
import Derived.Laws.OwnMore
import Derived.Laws.BytesString
import Derived.Laws.Slices
namespace Go.Proofs.YtoppcpiheaedlaaGreatDoor
open Go.RowKit

/-- A byte as a value. -/
def bv (b : UInt8) : Value := .int .u8 (b.toNat : Int)

/-- A slice value that reads as these bytes. -/
def Byt (W : World) (v : Value) (l : List UInt8) : Prop :=
  ∃ a cap, v = .slice a l.length cap ∧ l.length ≤ cap ∧ cap ≤ maxLen ∧ (a = none → cap = 0) ∧
    (l = [] ∨ ∃ b off, a = some ⟨b, off, none⟩ ∧ ∀ i, i < l.length → W.cell? ⟨b, off + i, none⟩ = some (bv (l.getD i 0)))

theorem Byt.grows {W W' : World} {v : Value} {l : List UInt8} (h : Byt W v l) (g : Grows W W') : Byt W' v l := by
  obtain ⟨a, cap, e, h1, h2, h3, h4⟩ := h
  refine ⟨a, cap, e, h1, h2, h3, h4.imp id ?_⟩
  rintro ⟨b, off, e, hc⟩
  exact ⟨b, off, e, fun i hi => Grows.cell' g (hc i hi)⟩

/-- A slice value that reads as these lists of bytes. -/
def BytL (W : World) (v : Value) (ls : List (List UInt8)) : Prop :=
  ∃ a cap, v = .slice a ls.length cap ∧ ls.length ≤ cap ∧ cap ≤ maxLen ∧ (a = none → cap = 0) ∧
    (ls = [] ∨ ∃ b off, a = some ⟨b, off, none⟩ ∧ ∀ i, i < ls.length → ∃ u, W.cell? ⟨b, off + i, none⟩ = some u ∧ Byt W u (ls.getD i []))

theorem BytL.grows {W W' : World} {v : Value} {ls : List (List UInt8)} (h : BytL W v ls) (g : Grows W W') : BytL W' v ls := by
  obtain ⟨a, cap, e, h1, h2, h3, h4⟩ := h
  refine ⟨a, cap, e, h1, h2, h3, h4.imp id ?_⟩
  rintro ⟨b, off, e, hc⟩
  refine ⟨b, off, e, fun i hi => ?_⟩
  obtain ⟨u, h5, h6⟩ := hc i hi
  exact ⟨u, Grows.cell' g h5, h6.grows g⟩
theorem BytL.slice {W : World} {v : Value} {ls : List (List UInt8)} (h : BytL W v ls) : ∃ a cap, v = .slice a ls.length cap := by
  obtain ⟨a, cap, e, _⟩ := h
  exact ⟨a, cap, e⟩
theorem BytL.lit (W : World) (e : TypeId) (vs : List Value) (ls : List (List UInt8)) (hn : vs.length = ls.length) (hm : ls.length ≤ maxLen) (h : ∀ i, i < ls.length → Byt W (vs.getD i undef) (ls.getD i [])) :
    BytL (W.alloc (.cells vs.toArray e)) (.slice (some ⟨W.heap.size, 0, none⟩) ls.length ls.length) ls := by
  refine ⟨_, _, rfl, Nat.le_refl _, hm, fun h => (by cases h), .inr ⟨_, _, rfl, fun i hi => ⟨vs.getD i undef, ?_, (h i hi).grows (Grows.alloc' _ _)⟩⟩⟩
  rw [World.cell?_alloc_at _ _ _ _ rfl]
  simp [List.getD, show i < vs.length by omega]

theorem BytL.lit' (W : World) (e : TypeId) (vs : List Value) (ls : List (List UInt8)) (g n : Nat) (hg : g = W.heap.size) (hl : n = ls.length) (hn : vs.length = ls.length) (hm : ls.length ≤ maxLen) (h : ∀ i, i < ls.length → Byt W (vs.getD i undef) (ls.getD i [])) :
    BytL (W.alloc (.cells vs.toArray e)) (.slice (some ⟨g, 0, none⟩) n n) ls := by
  subst hg; subst hl
  exact BytL.lit W e vs ls hn hm h

/-- A fact about a slot. -/
inductive Spec where
  | val (v : Value)
  | byt (l : List UInt8)
  | bytl (ls : List (List UInt8))
  | any
  | pred (p : Value → World → Prop) (h : ∀ v W W', Grows W W' → p v W → p v W')
def Spec.holds : Spec → Value → World → Prop
  | .val v, u, _ => u = v
  | .byt l, u, W => Byt W u l
  | .bytl ls, u, W => BytL W u ls
  | .any, _, _ => True
  | .pred p _, u, W => p u W
theorem Spec.grows {W W' : World} {v : Value} : ∀ {s : Spec}, Grows W W' → s.holds v W → s.holds v W'
  | .val _, _, h => h
  | .byt _, g, h => Byt.grows h g
  | .bytl _, g, h => BytL.grows h g
  | .any, _, _ => trivial
  | .pred _ h, g, hp => h _ _ _ g hp

def Spec.yields : Spec → Option (Option Bool)
  | .val v => some (boolOf v)
  | _ => none
theorem Spec.yields_holds {s : Spec} {y : Option Bool} (h : s.yields = some y) {v : Value} {W : World} (hv : s.holds v W) : boolOf v = y := by
  cases s with
  | val u =>
    obtain rfl : v = u := hv
    simpa [Spec.yields] using h
  | byt l => simp [Spec.yields] at h
  | bytl l => simp [Spec.yields] at h
  | any => simp [Spec.yields] at h
  | pred p q => simp [Spec.yields] at h
def phi (specs : Array Spec) (i : Nat) (v : Value) (W : World) : Prop := (specs.getD i Spec.any).holds v W
def guardChk (ops : Array Oper) (run : Array Bool) (specs : Array Spec) : Bool :=
  (List.range ops.size).all fun i => match ops[i]? with
    | none => true
    | some o => match o.guard with
      | none => true
      | some (g, b) => match (specs.getD g Spec.any).yields with
        | some y => (y == some b) == run.getD i false
        | none => false
theorem allReq_of {R : Nat → Prop} : ∀ {l : List Nat}, (∀ i ∈ l, R i) → AllReq R l
  | [], _ => trivial
  | i :: _, h => ⟨h i List.mem_cons_self, allReq_of fun j hj => h j (List.mem_cons_of_mem _ hj)⟩
theorem guards_ok {ops : Array Oper} {run : Array Bool} {specs : Array Spec} (h : guardChk ops run specs = true) : AllReq (GuardReq ops run (phi specs)) (List.range ops.size) := by
  refine allReq_of fun i hi => ?_
  have h1 := List.all_eq_true.1 h i hi
  unfold GuardReq
  cases ho : ops[i]? with
  | none => trivial
  | some o =>
    simp only [ho] at h1 ⊢
    cases hg : o.guard with
    | none => trivial
    | some gb =>
      obtain ⟨g, b⟩ := gb
      simp only [hg] at h1 ⊢
      intro v W hv
      cases hs : (specs.getD g Spec.any).yields with
      | none => rw [hs] at h1; cases h1
      | some c =>
        rw [hs] at h1
        rw [Spec.yields_holds hs hv]
        simpa using h1

theorem specs_region {P : Program} {ops : Array Oper} {a0 : Act} {w0 : World} {Q : Exit → Act → World → Prop} {id : Nat} (pre org : Array (List Nat)) (run : Array Bool) (specs : Array Spec) (hm : P.follows .mixedOrders = true) (hchk : regionChk ops a0.tmps.size ops.size pre org run = true)
    (hg : guardChk ops run specs = true)
    (hs : AllReq (fun i => if i = ops.size then True else StepReq P ops pre org run (phi specs) a0 w0 i) (List.range ops.size))
    (hQ : ∀ a W, AllBut ops ops.size (phi specs) a0 w0 a W → Q .normal a W) :
    (Code.region id ops true).wp P Q a0 w0 :=
  wp_region_facts pre org run (phi specs) hm hchk (fun _ _ _ _ g h => Spec.grows g h) (guards_ok hg) hs hQ
theorem specs_last {P : Program} {ops : Array Oper} {a0 : Act} {w0 : World} {Q : Exit → Act → World → Prop} {id : Nat} (last : Nat) (pre org : Array (List Nat)) (run : Array Bool) (specs : Array Spec) (hm : P.follows .mixedOrders = true) (hchk : regionChk ops a0.tmps.size last pre org run = true)
    (hg : guardChk ops run specs = true) {o : Oper} (ho : ops[last]? = some o)
    (hs : AllReq (fun i => if i = last then True else StepReq P ops pre org run (phi specs) a0 w0 i) (List.range ops.size))
    (hlast : ∀ a W, AllBut ops last (phi specs) a0 w0 a W → StepOk P o a.eval W (fun v W' => Q .normal (a.put o.dst v) W')) :
    (Code.region id ops true).wp P Q a0 w0 :=
  wp_region_facts_last last pre org run (phi specs) hm hchk (fun _ _ _ _ g h => Spec.grows g h) (guards_ok hg) hs (fun o' ho' => by rw [ho] at ho'; obtain rfl := Option.some.inj ho'; exact hlast) (fun h => by have := (Array.getElem?_eq_some_iff.1 ho).1; omega)
theorem specs_round {P : Program} {ops : Array Oper} {a0 : Act} {w0 : World} {Q : Exit → Act → World → Prop} {id l n : Nat} (last : Nat) (pre org : Array (List Nat)) (run : Array Bool) (specs : Array Spec) (hm : P.follows .mixedOrders = true) (hnd : noDefer ops = true) (hchk : regionChk ops a0.tmps.size last pre org run = true)
    (hg : guardChk ops run specs = true) {o : Oper} (ho : ops[last]? = some o)
    (hs : AllReq (fun i => if i = last then True else StepReq P ops pre org run (phi specs) a0 w0 i) (List.range ops.size))
    (hlast : ∀ a W, AllBut ops last (phi specs) a0 w0 a W → StepOk P o a.eval W (fun v W' => Q .normal (a.put o.dst v) W')) :
    (Code.region id ops true).wpIn (Fence.wide.inRound l) n P Q a0 w0 :=
  wpIn_region_facts_last last pre org run (phi specs) hm hnd hchk (fun _ _ _ _ g h => Spec.grows g h) (guards_ok hg) hs (fun o' ho' => by rw [ho] at ho'; obtain rfl := Option.some.inj ho'; exact hlast) (fun h => by have := (Array.getElem?_eq_some_iff.1 ho).1; omega)

/-- What a call owns of bytes, in blocks from B on (e: the number of the type 'byte'). -/
def Own (e : TypeId) (B : Nat) (W : World) (v : Value) (l : List UInt8) : Prop := W.ownsRow B e 1 v l.length (l.map bv)

theorem Own.byt {e : TypeId} {B : Nat} {W : World} {v : Value} {l : List UInt8} (h : Own e B W v l) : Byt W v l := by
  rcases h.2 with ⟨rfl, h0⟩ | ⟨g, cap, cur, rfl, hb, hg, hn, hm, hs, ht⟩
  · have : l = [] := List.eq_nil_of_length_eq_zero h0
    subst this
    exact ⟨none, 0, rfl, Nat.le_refl _, by simp [maxLen], fun _ => rfl, .inl rfl⟩
  · refine ⟨some ⟨g, 0, none⟩, cap, rfl, hn, hm, fun h => (by cases h), .inr ⟨g, 0, rfl, fun i hi => ?_⟩⟩
    rw [cell_of_row W g (0 + i) cur e (0, 0) hg]
    have h1 : (cur.toList.take (l.length * 1))[i]? = (l.map bv)[i]? := by rw [ht]
    rw [List.getElem?_take, if_pos (by omega)] at h1
    rw [Nat.zero_add, ← Array.getElem?_toList, h1]
    simp [hi, List.getD]

theorem Own.grows {e : TypeId} {B : Nat} {W W' : World} {v : Value} {l : List UInt8} (h : Own e B W v l) (g : Grows W W') : Own e B W' v l := by
  refine ⟨h.1, ?_⟩
  rcases h.2 with h' | ⟨b, cap, cur, e1, hb, hg, rest⟩
  · exact .inl h'
  · exact .inr ⟨b, cap, cur, e1, hb, (g.block b (Array.getElem?_eq_some_iff.1 hg).1).trans hg, rest⟩

theorem Own.mono {e : TypeId} {B B' : Nat} {W : World} {v : Value} {l : List UInt8} (h : Own e B W v l) (hB : B' ≤ B) : Own e B' W v l := by
  refine ⟨h.1, ?_⟩
  rcases h.2 with h' | ⟨b, cap, cur, e1, hb, rest⟩
  · exact .inl h'
  · exact .inr ⟨b, cap, cur, e1, by omega, rest⟩

theorem Own.nil (e : TypeId) (B : Nat) (W : World) : Own e B W (.slice none 0 0) [] := World.ownsRow_nil _ _ _ _

theorem Byt.nil (W : World) : Byt W (.slice none 0 0) [] := ⟨none, 0, rfl, Nat.le_refl _, by simp [maxLen], fun _ => rfl, .inl rfl⟩

theorem Byt.len {W : World} {a : Option Addr} {n cap : Nat} {l : List UInt8} (h : Byt W (.slice a n cap) l) : n = l.length := by
  obtain ⟨_, _, e, _⟩ := h
  simp at e
  exact e.2.1

theorem Byt.cell {W : World} {b off n cap : Nat} {l : List UInt8} (h : Byt W (.slice (some ⟨b, off, none⟩) n cap) l) (i : Nat) (hi : i < l.length) : W.cell? ⟨b, off + i, none⟩ = some (bv (l.getD i 0)) := by
  obtain ⟨a, c, e, _, _, _, h4⟩ := h
  simp at e
  rcases h4 with rfl | ⟨b', off', ha, hc⟩
  · simp at hi
  · have := e.1.trans ha
    simp at this
    obtain ⟨rfl, rfl⟩ := this
    exact hc i hi

/-- A literal's block reads as its bytes. -/
theorem Own.lit (e : TypeId) (B : Nat) (W : World) (l : List UInt8) (hB : B ≤ W.heap.size) (hl : l.length ≤ maxLen) :
    Own e B (W.alloc (.cells (l.map bv).toArray e)) (.slice (some ⟨W.heap.size, 0, none⟩) l.length l.length) l := by
  have := World.ownsRow_lit (base := B) (e := e) (size := 1) W (l.map bv).toArray l.length hB hl (by simp)
  simpa [Own] using this

section
variable {P : Program} {T e S : TypeId}

theorem loadCells_byt {W : World} {b off n : Nat} {l : List UInt8} (hn : n = l.length) (hc : ∀ i, i < l.length → W.cell? ⟨b, off + i, none⟩ = some (bv (l.getD i 0))) :
    (loadCells ⟨b, off, none⟩ n).run P W = .ok (l.map bv).toArray W := by
  have := run_loadCells_list (P := P) W ⟨b, off, none⟩ (l.map bv) (fun j v hv => by
    have hj : j < l.length := by simpa using (List.getElem?_eq_some_iff.1 hv).1
    rw [Addr.add_lit, hc j hj]
    simpa [hj, List.getD] using hv)
  simpa [hn] using this

theorem foldl_push (l : List UInt8) : ∀ (s : ByteArray), (l.map fun b => (b.toNat : Int)).foldl (fun r n => r.push (UInt8.ofNat n.toNat)) s = ⟨s.data ++ l.toArray⟩ := by
  induction l with
  | nil => intro s; simp
  | cons b l ih =>
    intro s
    simp only [List.map_cons, List.foldl_cons, ih]
    congr 1
    apply Array.ext'
    simp [ByteArray.push]

/-- 'string(b)'. -/
theorem run_string {W : World} {v : Value} {l : List UInt8} (hT : P.underlying T = some (.slice e)) (he : P.underlying e = some (.int .u8)) (hS : P.underlying S = some .string) (h : Byt W v l) :
    (convert T S v).run P W = .ok (.string ⟨l.toArray⟩) W := by
  obtain ⟨a, cap, rfl, h1, h2, h3, h4⟩ := h
  rw [run_convert_bytes_string W T S e a l.length cap hT he hS]
  cases a with
  | none =>
    have hl : l = [] := by
      have := h3 rfl
      exact List.eq_nil_of_length_eq_zero (by omega)
    subst hl
    rfl
  | some x =>
    rcases h4 with rfl | ⟨b, off, hx, hc⟩
    · have hload : (loadCells x 0).run P W = .ok (([] : List Int).map (Value.int .u8)).toArray W := by
        have := run_loadCells_list (P := P) W x [] (fun j v hv => by simp at hv)
        simpa using this
      rw [show ([] : List UInt8).length = 0 from rfl, run_bytesToString W x 0 cap [] hload]
      rfl
    · obtain rfl := Option.some.inj hx
      have hload := loadCells_byt (P := P) (W := W) (b := b) (off := off) (n := l.length) (l := l) rfl hc
      rw [run_bytesToString W _ l.length cap (l.map fun b => (b.toNat : Int)) (by rw [hload]; simp [bv, Function.comp_def])]
      rw [foldl_push]
      refine congrArg (fun x => Result.ok (Value.string x) W) ?_
      apply congrArg ByteArray.mk
      simp [ByteArray.empty, ByteArray.emptyWithCapacity]
      rfl

/-- 'append(v, x...)' onto bytes of the call's own. -/
theorem run_app {W : World} {ty : TypeId} {i : TypeInfo} {B : Nat} {v x : Value} {l m : List UInt8} (hT : P.underlying T = some (.slice e)) (hi : P.info? e = some i) (hz : i.zero = some (.int .u8 0)) (hs : i.size = 1) (hb : i.bytes = 1)
    (hv : Own e B W v l) (hx : Byt W x m) (hlen : l.length + m.length ≤ 140737488355328) (hB : B ≤ W.heap.size) :
    ∃ v' W', (Builtin.append_ #[T, T] ty #[v, x]).run P W = .ok v' W' ∧ Own e B W' v' (l ++ m) ∧ W.grownBy W' v.ownBlock := by
  obtain ⟨a, cap, rfl, h1, h2, h3, h4⟩ := hx
  cases a with
  | none =>
    have hl : m = [] := by
      have := h3 rfl
      exact List.eq_nil_of_length_eq_zero (by omega)
    obtain rfl := h3 rfl
    subst hl
    exact ⟨v, W, run_append_owned_none W B T ty e i 1 hT hi v l.length _ hv, by simpa using hv, ⟨rfl, rfl, rfl, Nat.le_refl _, fun _ _ _ => rfl⟩⟩
  | some x =>
    obtain ⟨v', W', hr, ho, hg, _⟩ := run_append_own (P := P) W B T ty e i (.int .u8 0) 1 1 hT hi hz hs hb rfl (by decide) v l.length (l.map bv) hv x m.length cap (m.map bv) (by simp)
      (fun j u hu => by
        have hj : j < m.length := by simpa using (List.getElem?_eq_some_iff.1 hu).1
        rcases h4 with rfl | ⟨b, off, hx, hc⟩
        · simp at hj
        · obtain rfl := Option.some.inj hx
          rw [Addr.add_lit, hc j hj]
          simpa [hj, List.getD] using hu)
      (fun u hu => by
        obtain ⟨b, _, rfl⟩ := List.mem_map.1 hu
        rfl)
      (by simp [maxLen]; omega) (by omega) hB
    exact ⟨v', W', hr, by simpa [Own] using ho, hg⟩

end

theorem Own.alloc {e : TypeId} {B : Nat} {W : World} {v : Value} {l : List UInt8} (h : Own e B W v l) (o : Obj) : Own e B (W.alloc o) v l := h.grows (Grows.alloc' W o)

theorem cell_lit (W : World) (u : Value) (e : TypeId) : (W.alloc (.cells #[u] e)).cell? ⟨W.heap.size, 0, none⟩ = some u := by
  rw [World.cell?_alloc_at _ _ _ _ rfl]; rfl

theorem Below.of_grown {B : Nat} {e : TypeId} {W W' : World} {v : Value} {l : List UInt8} (hv : Own e B W v l) (hB : B ≤ W.heap.size) (hg : W.grownBy W' v.ownBlock) : Below B W W' :=
  (Below.refl _ _).grown hg hB fun j hj => (World.ownsRow.lt hv j hj).1

theorem grows_push {e : TypeId} {B : Nat} {W0 W w1 : World} {v : Value} {l : List UInt8} {o : Obj} (hB : Below B W0 W) (hown : Own e B W v l) (hs : B ≤ W.heap.size) (hg : (W.alloc o).grownBy w1 v.ownBlock) : Below B W0 w1 :=
  (hB.alloc hs o).grown hg (by simp; omega) fun j hj => (World.ownsRow.lt hown j hj).1
theorem grows_app {e : TypeId} {B : Nat} {W0 W w1 : World} {v : Value} {l : List UInt8} (hB : Below B W0 W) (hown : Own e B W v l) (hs : B ≤ W.heap.size) (hg : W.grownBy w1 v.ownBlock) : Below B W0 w1 :=
  hB.grown hg hs fun j hj => (World.ownsRow.lt hown j hj).1
theorem wrap_u64 (x : Int) (h0 : 0 ≤ x) (h1 : x < 18446744073709551616) : IntKind.u64.wrap x = x := by
  simp only [IntKind.wrap]
  simp [IntKind.bits, IntKind.signed]
  omega
theorem bvE (m : Nat) : bv (UInt8.ofNat m) = .int .u8 ((m : Int) % 256) := by
  simp [bv]
theorem byteE (m : Nat) (E : Int) (h : m < 256) (he : E = m) : E = ((UInt8.ofNat m).toNat : Int) := by
  subst he
  simp only [UInt8.toNat_ofNat']
  omega

/-- What 'b[lo:hi]' reads as. -/
theorem sliced_byt {W : World} {a : Option Addr} {cap L H : Nat} {l : List UInt8} (h : Byt W (.slice a l.length cap) l) (h1 : L ≤ H) (h2 : H ≤ l.length) :
    ∃ a' c', sliced a L H cap 1 = .slice a' (H - L) c' ∧ Byt W (.slice a' (H - L) c') ((l.drop L).take (H - L)) := by
  obtain ⟨a0, cap0, e, h3, h4, h5, h6⟩ := h
  simp only [Value.slice.injEq, true_and] at e
  obtain ⟨rfl, rfl⟩ := e
  refine ⟨_, _, rfl, ?_⟩
  have hlen : ((l.drop L).take (H - L)).length = H - L := by simp; omega
  refine ⟨_, _, by rw [hlen], by omega, by omega, ?_, ?_⟩
  · intro ha
    split at ha
    · have := h5 ha; omega
    · rw [Option.map_eq_none_iff] at ha
      have := h5 ha; omega
  · by_cases hLH : L = H
    · left
      subst hLH
      simp
    · right
      have hne : cap ≠ L := by omega
      rcases h6 with rfl | ⟨b, off, rfl, hc⟩
      · simp at h2; omega
      · refine ⟨b, off + L, by rw [if_neg hne]; simp [Addr.add_lit], fun i hi => ?_⟩
        rw [hlen] at hi
        rw [Nat.add_assoc, hc (L + i) (by omega)]
        simp [List.getD, hi]

theorem sliceTo_byt {P : Program} {W : World} {T : TypeId} {i : TypeInfo} {v : Value} {l : List UInt8} {H : Nat} {kh : IntKind} (hT : P.underlying T = some (.slice (P.elem T))) (hi : P.info? (P.elem T) = some i) (hs : i.size = 1) (hv : Byt W v l) (h2 : H ≤ l.length) :
    ∃ a' c', (Instr.sliceAt T v none (some (.int kh (H : Int))) none).run P W = .ok (.slice a' H c') W ∧ Byt W (.slice a' H c') (l.take H) := by
  have hv' := hv
  obtain ⟨ad, cap, rfl, h3, _⟩ := hv'
  obtain ⟨a', c', e1, e2⟩ := sliced_byt hv (Nat.zero_le H) h2
  refine ⟨a', c', ?_, by simpa using e2⟩
  rw [run_sliceAt_slice W T _ _ _ _ hT, run_slice_h W T ad l.length cap hT kh H (by omega) (by omega)]
  simp only [Nat.sub_zero] at e1
  simp [sizeOf, typeInfo, hi, hs, ← e1, Result.andThen]
theorem sliceFrom_byt {P : Program} {W : World} {T : TypeId} {i : TypeInfo} {v : Value} {l : List UInt8} {L : Nat} {kl : IntKind} (hT : P.underlying T = some (.slice (P.elem T))) (hi : P.info? (P.elem T) = some i) (hs : i.size = 1) (hv : Byt W v l) (h2 : L ≤ l.length) :
    ∃ a' c', (Instr.sliceAt T v (some (.int kl (L : Int))) none none).run P W = .ok (.slice a' (l.length - L) c') W ∧ Byt W (.slice a' (l.length - L) c') (l.drop L) := by
  have hv' := hv
  obtain ⟨ad, cap, rfl, h3, _⟩ := hv'
  obtain ⟨a', c', e1, e2⟩ := sliced_byt hv h2 (Nat.le_refl _)
  have e3 : (l.drop L).take (l.length - L) = l.drop L := List.take_of_length_le (by simp)
  rw [e3] at e2
  refine ⟨a', c', ?_, e2⟩
  rw [run_sliceAt_slice W T _ _ _ _ hT, run_slice_l W T ad l.length cap hT kl L (by omega) (by omega)]
  simp [sizeOf, typeInfo, hi, hs, ← e1, Result.andThen]

/-- 'b[lo:]', in a walk. -/
theorem wpList_sliceFrom {P : Program} {W : World} {ops : Array Oper} {rest : List Oper} {o : Oper} {a : Act} {Q : Exit → Act → World → Prop} (hgd : o.guard = none) (x lo : Operand) (T : TypeId) (i : TypeInfo)
    (ho : o.op = .slice T x (some lo) none none)
    (hT : P.underlying T = some (.slice (P.elem T))) (hi' : P.info? (P.elem T) = some i) (hs : i.size = 1)
    (v : Value) (l : List UInt8) (hx : a.eval x = v) (hv : Byt W v l) (L : Nat) (kl : IntKind) (hlo : a.eval lo = .int kl (L : Int)) (h2 : L ≤ l.length)
    (hK : ∀ a' c', Byt W (.slice a' (l.length - L) c') (l.drop L) → wpList P ops Q rest (a.put o.dst (.slice a' (l.length - L) c')) W) : wpList P ops Q (o :: rest) a W := by
  refine wpList_plain hgd fun K hK' => ?_
  obtain ⟨a', c', hr, e2⟩ := sliceFrom_byt (kl := kl) hT hi' hs hv h2
  unfold Oper.wp execOp
  simp only [ho, Option.map_some, Option.map_none, hx, hlo, Sem.run_bind, Sem.run_pure, hr, Result.andThen_ok, Oper.upon]
  exact hK' _ _ (hK a' c' e2)

/-- 'b[:hi]', in a walk. -/
theorem wpList_sliceTo {P : Program} {W : World} {ops : Array Oper} {rest : List Oper} {o : Oper} {a : Act} {Q : Exit → Act → World → Prop} (hgd : o.guard = none) (x hi : Operand) (T : TypeId) (i : TypeInfo)
    (ho : o.op = .slice T x none (some hi) none)
    (hT : P.underlying T = some (.slice (P.elem T))) (hi' : P.info? (P.elem T) = some i) (hs : i.size = 1)
    (v : Value) (l : List UInt8) (hx : a.eval x = v) (hv : Byt W v l) (H : Nat) (kh : IntKind) (hhi : a.eval hi = .int kh (H : Int)) (h2 : H ≤ l.length)
    (hK : ∀ a' c', Byt W (.slice a' H c') (l.take H) → wpList P ops Q rest (a.put o.dst (.slice a' H c')) W) : wpList P ops Q (o :: rest) a W := by
  refine wpList_plain hgd fun K hK' => ?_
  obtain ⟨a', c', hr, e2⟩ := sliceTo_byt (kh := kh) hT hi' hs hv h2
  unfold Oper.wp execOp
  simp only [ho, Option.map_some, Option.map_none, hx, hhi, Sem.run_bind, Sem.run_pure, hr, Result.andThen_ok, Oper.upon]
  exact hK' _ _ (hK a' c' e2)

/-- 'string(b)', in a walk. -/
theorem wpList_conv {P : Program} {W : World} {ops : Array Oper} {rest : List Oper} {o : Oper} {a : Act} {Q : Exit → Act → World → Prop} (hgd : Region.wanted o (yielded ops a.tmps) = true) (x : Operand) (T e S : TypeId)
    (ho : o.op = .convert T S x) (hT : P.underlying T = some (.slice e)) (he : P.underlying e = some (.int .u8)) (hS : P.underlying S = some .string)
    (v : Value) (l : List UInt8) (hx : a.eval x = v) (hv : Byt W v l)
    (hK : wpList P ops Q rest (a.put o.dst (.string ⟨l.toArray⟩)) W) : wpList P ops Q (o :: rest) a W := by
  refine wpList_step fun K hK' => ?_
  rw [if_pos hgd]
  have hr := run_string (P := P) hT he hS hv
  unfold Oper.wp execOp
  simp only [ho, hx, Sem.run_bind, Sem.run_pure, hr, Result.andThen_ok, Oper.upon]
  exact hK' _ _ hK

/-- 'b[lo:hi]', in a walk. -/
theorem wpList_slice {P : Program} {W : World} {ops : Array Oper} {rest : List Oper} {o : Oper} {a : Act} {Q : Exit → Act → World → Prop} (hgd : o.guard = none) (x lo hi : Operand) (T : TypeId) (i : TypeInfo)
    (ho : o.op = .slice T x (some lo) (some hi) none)
    (hT : P.underlying T = some (.slice (P.elem T))) (hi' : P.info? (P.elem T) = some i) (hs : i.size = 1)
    (ad : Option Addr) (cap : Nat) (l : List UInt8) (hx : a.eval x = .slice ad l.length cap) (hv : Byt W (.slice ad l.length cap) l) (L H : Nat) (kl kh : IntKind) (hlo : a.eval lo = .int kl (L : Int)) (hhi : a.eval hi = .int kh (H : Int)) (h1 : L ≤ H) (h2 : H ≤ l.length)
    (hK : ∀ a' c', Byt W (.slice a' (H - L) c') ((l.drop L).take (H - L)) → wpList P ops Q rest (a.put o.dst (.slice a' (H - L) c')) W) : wpList P ops Q (o :: rest) a W := by
  refine wpList_plain hgd fun K hK' => ?_
  obtain ⟨a', c', e1, e2⟩ := sliced_byt hv h1 h2
  have hcap : l.length ≤ cap := by
    obtain ⟨a0, cap0, e, h3, _⟩ := hv
    simp only [Value.slice.injEq, true_and] at e
    omega
  have hr : (Instr.sliceAt T (.slice ad l.length cap) (some (.int kl (L : Int))) (some (.int kh (H : Int))) none).run P W = .ok (.slice a' (H - L) c') W := by
    rw [run_sliceAt_slice W T _ _ _ _ hT, run_slice_lh W T ad l.length cap hT kl kh L H (by omega) (by omega) (by omega)]
    simp [sizeOf, typeInfo, hi', hs, ← e1, Result.andThen]
  unfold Oper.wp execOp
  simp only [ho, Option.map_some, Option.map_none, hx, hlo, hhi, Sem.run_bind, Sem.run_pure, hr, Result.andThen_ok, Oper.upon]
  exact hK' _ _ (hK a' c' e2)

/-- 'append(v, c)' onto bytes of the call's own, in a walk. -/
theorem wpList_push {P : Program} {W : World} {ops : Array Oper} {rest : List Oper} {o : Oper} {a : Act} {Q : Exit → Act → World → Prop} (hgd : o.guard = none) (s x : Operand) (T e : TypeId) (i : TypeInfo)
    (ho : o.op = .call { callee := .builtin .append, args := #[s, x], argTypes := #[T, T] })
    (hT : P.underlying T = some (.slice e)) (hi : P.info? e = some i) (hz : i.zero = some (.int .u8 0)) (hs : i.size = 1) (hb : i.bytes = 1)
    (B : Nat) (v : Value) (l : List UInt8) (hv : a.eval s = v) (hown : Own e B W v l) (g c : Nat) (hx : a.eval x = .slice (some ⟨g, 0, none⟩) 1 c) (E : Int) (hc : W.cell? ⟨g, 0, none⟩ = some (.int .u8 E)) (b : UInt8) (hE : E = (b.toNat : Int))
    (hlen : l.length + 1 ≤ 140737488355328) (hB : B ≤ W.heap.size)
    (hK : ∀ v' W', Own e B W' v' (l ++ [b]) → W.grownBy W' v.ownBlock → wpList P ops Q rest (a.put o.dst v') W') : wpList P ops Q (o :: rest) a W := by
  subst hE
  refine wpList_append_own W hgd s x T ho B e i (.int .u8 0) 1 1 hT hi hz hs hb rfl (by decide) v l.length (l.map bv) hv hown ⟨g, 0, none⟩ 1 c [bv b] hx rfl ?_ ?_ (by simp [maxLen]; omega) (by omega) hB ?_
  · intro j u hu
    match j with
    | 0 => simp at hu; subst hu; simpa [Addr.add_lit, bv] using hc
    | j + 1 => simp at hu
  · intro u hu
    simp at hu
    subst hu
    rfl
  · intro v' W' h1 h2 _
    exact hK v' W' (by simpa [Own] using h1) h2

/-- 'append(v, x...)' onto bytes of the call's own, in a walk. -/
theorem wpList_app {P : Program} {W : World} {ops : Array Oper} {rest : List Oper} {o : Oper} {a : Act} {Q : Exit → Act → World → Prop} (hgd : o.guard = none) (s x : Operand) (T e : TypeId) (i : TypeInfo)
    (ho : o.op = .call { callee := .builtin .append, args := #[s, x], argTypes := #[T, T] })
    (hT : P.underlying T = some (.slice e)) (hi : P.info? e = some i) (hz : i.zero = some (.int .u8 0)) (hs : i.size = 1) (hb : i.bytes = 1)
    (B : Nat) (v u : Value) (l m : List UInt8) (hv : a.eval s = v) (hown : Own e B W v l) (hx : a.eval x = u) (hu : Byt W u m)
    (hlen : l.length + m.length ≤ 140737488355328) (hB : B ≤ W.heap.size)
    (hK : ∀ v' W', Own e B W' v' (l ++ m) → W.grownBy W' v.ownBlock → wpList P ops Q rest (a.put o.dst v') W') : wpList P ops Q (o :: rest) a W := by
  refine wpList_plain hgd fun K hK' => ?_
  obtain ⟨v', W', hr, h1, h2⟩ := run_app (ty := o.type) hT hi hz hs hb hown hu hlen hB
  unfold Oper.wp execOp
  simp only [ho, resolve, invoke, builtin, Sem.run_bind, Sem.run_pure, Result.andThen_ok, List.map_toArray, List.map_cons, List.map_nil, hv, hx, hr]
  exact hK' _ _ (hK v' W' h1 h2)

/-- The same of an operation that waits for another one's answer. -/
theorem wpList_app_g {P : Program} {W : World} {ops : Array Oper} {rest : List Oper} {o : Oper} {a : Act} {Q : Exit → Act → World → Prop} (hgd : Region.wanted o (yielded ops a.tmps) = true) (s x : Operand) (T e : TypeId) (i : TypeInfo)
    (ho : o.op = .call { callee := .builtin .append, args := #[s, x], argTypes := #[T, T] })
    (hT : P.underlying T = some (.slice e)) (hi : P.info? e = some i) (hz : i.zero = some (.int .u8 0)) (hs : i.size = 1) (hb : i.bytes = 1)
    (B : Nat) (v u : Value) (l m : List UInt8) (hv : a.eval s = v) (hown : Own e B W v l) (hx : a.eval x = u) (hu : Byt W u m)
    (hlen : l.length + m.length ≤ 140737488355328) (hB : B ≤ W.heap.size)
    (hK : ∀ v' W', Own e B W' v' (l ++ m) → W.grownBy W' v.ownBlock → wpList P ops Q rest (a.put o.dst v') W') : wpList P ops Q (o :: rest) a W := by
  refine wpList_step fun K hK' => ?_
  rw [if_pos hgd]
  obtain ⟨v', W', hr, h1, h2⟩ := run_app (ty := o.type) hT hi hz hs hb hown hu hlen hB
  unfold Oper.wp execOp
  simp only [ho, resolve, invoke, builtin, Sem.run_bind, Sem.run_pure, Result.andThen_ok, List.map_toArray, List.map_cons, List.map_nil, hv, hx, hr]
  exact hK' _ _ (hK v' W' h1 h2)

/-- What came in as a slice of bytes. -/
theorem byt_of_row {w : World} {a : Option Addr} {len cap : Nat} {zs : List Int}
    (h : (a = none ∧ len = 0 ∧ cap = 0 ∧ zs = []) ∨
      ∃ x, a = some x ∧ len ≤ cap ∧ cap ≤ maxLen ∧ zs.length = cap ∧ (∀ i, i < zs.length → w.cell? (x.add i) = some (.int .u8 (zs.getD i 0))) ∧ ∀ n ∈ zs, (Lit.int .u8 n).wf = true) :
    ∃ l : List UInt8, len = l.length ∧ Byt w (.slice a len cap) l := by
  rcases h with ⟨rfl, rfl, rfl, rfl⟩ | ⟨x, rfl, h1, h2, h3, h4, h5⟩
  · exact ⟨[], rfl, Byt.nil w⟩
  · refine ⟨(zs.take len).map fun z => UInt8.ofNat z.toNat, by simp; omega, ?_⟩
    have hl : ((zs.take len).map fun z => UInt8.ofNat z.toNat).length = len := by simp; omega
    refine ⟨some x, cap, by rw [hl], by omega, h2, fun h => (by cases h), ?_⟩
    by_cases h0 : len = 0
    · left; subst h0; simp
    · right
      obtain ⟨b, off, spot⟩ := x
      have hc := h4 0 (by omega)
      have hspot : spot = none := by simpa [Addr.add] using World.cell?_spot hc
      subst hspot
      refine ⟨b, off, rfl, fun i hi => ?_⟩
      rw [hl] at hi
      have hci := h4 i (by omega)
      rw [Addr.add_lit] at hci
      rw [hci]
      have hm : zs.getD i 0 ∈ zs := by
        rw [List.getD, List.getElem?_eq_getElem (by omega), Option.getD_some]
        exact List.getElem_mem _
      have hwf := h5 _ hm
      have hb : 0 ≤ zs.getD i 0 ∧ zs.getD i 0 < 256 := by
        simp [Lit.wf, IntKind.min, IntKind.max, IntKind.bits, IntKind.signed] at hwf
        simp [List.getD] at *
        omega
      have e1 : ((zs.take len).map fun z => UInt8.ofNat z.toNat).getD i 0 = UInt8.ofNat (zs.getD i 0).toNat := by
        simp [List.getD, hi, show i < zs.length by omega]
      rw [e1]
      unfold bv
      congr 2
      rw [UInt8.toNat_ofNat']
      omega

theorem nat_of_u64 {a : Int} (h : (Lit.int .u64 a).wf = true) : ∃ n : Nat, a = n ∧ n < 18446744073709551616 := by
  simp [Lit.wf, IntKind.min, IntKind.max, IntKind.bits, IntKind.signed] at h
  exact ⟨a.toNat, by omega, by omega⟩
end Go.Proofs.YtoppcpiheaedlaaGreatDoor
