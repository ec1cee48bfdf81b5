/-
  The program's disk: a file read out of bytes.
-/
import Derived.Test.YtoppcpiheaedlaaGreatDoorCh
import Derived.Test.YtoppcpiheaedlaaGreatDoorFil
import Derived.Test.YtoppcpiheaedlaaGreatDoorDo
import Derived.RangeFuncNested
namespace Go.Proofs.YtoppcpiheaedlaaGreatDoor
open Go.RowKit Go.Maps
set_option linter.unusedVariables false
set_option linter.unusedSimpArgs false

section
variable {F : Fence} {n : Nat} {P : Program} {W : World} {ops : Array Oper} {rest : List Oper} {o : Oper} {a : Act} {Q : Exit → Act → World → Prop}
theorem listIn_conv (hgd : Region.wanted o (yielded ops a.tmps) = true) (x : Operand) (T e S : TypeId)
    (ho : o.op = .convert T S x) (hT : P.underlying T = some (.slice e)) (he : P.underlying e = some (.int .u8)) (hS : P.underlying S = some .string)
    (v : Value) (l : List UInt8) (hx : a.eval x = v) (hv : Byt W v l)
    (hK : wpListIn F n P ops Q rest (a.put o.dst (.string ⟨l.toArray⟩)) W) : wpListIn F n P ops Q (o :: rest) a W := by
  refine wpListIn_step fun K hK' => ?_
  rw [if_pos hgd]
  have hr := run_string (P := P) hT he hS hv
  unfold Oper.wpIn
  refine ⟨?_, ?_⟩
  · simp [Oper.about, ho]
  · rw [Oper.semAt_plain F _ _ (by rw [ho]; intro c hc'; cases hc')]
    simp only [execOp, ho, hx, Sem.run_bind, Sem.run_pure, hr, Result.andThen_ok]
    exact hK' _ _ hK
theorem listIn_from (hgd : o.guard = none) (x lo : Operand) (T : TypeId) (i : TypeInfo)
    (ho : o.op = .slice T x (some lo) none none)
    (hT : P.underlying T = some (.slice (P.elem T))) (hi' : P.info? (P.elem T) = some i) (hs : i.size = 1)
    (v : Value) (l : List UInt8) (hx : a.eval x = v) (hv : Byt W v l) (L : Nat) (kl : IntKind) (hlo : a.eval lo = .int kl (L : Int)) (h2 : L ≤ l.length)
    (hK : ∀ a' c', Byt W (.slice a' (l.length - L) c') (l.drop L) → wpListIn F n P ops Q rest (a.put o.dst (.slice a' (l.length - L) c')) W) : wpListIn F n P ops Q (o :: rest) a W := by
  refine wpListIn_plain hgd fun K hK' => ?_
  obtain ⟨a', c', hr, e2⟩ := sliceFrom_byt (kl := kl) hT hi' hs hv h2
  unfold Oper.wpIn
  refine ⟨?_, ?_⟩
  · simp [Oper.about, ho]
  · rw [Oper.semAt_plain F _ _ (by rw [ho]; intro c hc'; cases hc')]
    simp only [execOp, ho, Option.map_some, Option.map_none, hx, hlo, Sem.run_bind, Sem.run_pure, hr, Result.andThen_ok]
    exact hK' _ _ (hK a' c' e2)
theorem listIn_slice {Wv : World} (hgd : o.guard = none) (x lo hi : Operand) (T : TypeId) (i : TypeInfo)
    (ho : o.op = .slice T x (some lo) (some hi) none)
    (hT : P.underlying T = some (.slice (P.elem T))) (hi' : P.info? (P.elem T) = some i) (hs : i.size = 1)
    (ad : Option Addr) (cap : Nat) (l : List UInt8) (hx : a.eval x = .slice ad l.length cap) (hv : Byt Wv (.slice ad l.length cap) l) (L H : Nat) (kl kh : IntKind) (hlo : a.eval lo = .int kl (L : Int)) (hhi : a.eval hi = .int kh (H : Int)) (h1 : L ≤ H) (h2 : H ≤ l.length)
    (hK : ∀ a' c', Byt Wv (.slice a' (H - L) c') ((l.drop L).take (H - L)) → wpListIn F n P ops Q rest (a.put o.dst (.slice a' (H - L) c')) W) : wpListIn F n P ops Q (o :: rest) a W := by
  refine wpListIn_plain hgd fun K hK' => ?_
  obtain ⟨a', c', e1, e2⟩ := sliced_byt hv h1 h2
  have hcap : l.length ≤ cap := by
    obtain ⟨a0, cap0, e, h3, _⟩ := hv
    simp only [Value.slice.injEq, true_and] at e
    omega
  have hr : (Instr.sliceAt T (.slice ad l.length cap) (some (.int kl (L : Int))) (some (.int kh (H : Int))) none).run P W = .ok (.slice a' (H - L) c') W := by
    rw [run_sliceAt_slice W T _ _ _ _ hT, run_slice_lh W T ad l.length cap hT kl kh L H (by omega) (by omega) (by omega)]
    simp [sizeOf, typeInfo, hi', hs, ← e1, Result.andThen]
  unfold Oper.wpIn
  refine ⟨?_, ?_⟩
  · simp [Oper.about, ho]
  · rw [Oper.semAt_plain F _ _ (by rw [ho]; intro c hc'; cases hc')]
    simp only [execOp, ho, Option.map_some, Option.map_none, hx, hlo, hhi, Sem.run_bind, Sem.run_pure, hr, Result.andThen_ok]
    exact hK' _ _ (hK a' c' e2)
end

set_option maxRecDepth 100000 in
theorem chunk_in (n : Nat) (v : Value) (hv : ∃ a l c, v = .slice a l c) (w : World) :
    CallsIn Fence.wide n Tryz.prog 114 #[v, .int .i64 64] w fun e w' => e = .returned (.func (.func 132) #[] #[.pointer (some ⟨w.heap.size, 0, none⟩), .pointer (some ⟨w.heap.size + 1, 0, none⟩)]) ∧ w' = (w.alloc (.cells #[v] 36)).alloc (.cells #[.int .i64 64] 3) := by
  obtain ⟨a, l, c, rfl⟩ := hv
  have hmf : ∀ (fn : Fn) (first cap : Array Value) (w : World), (Instr.makeFunc fn first cap).run Tryz.prog w = .ok (.func fn first cap) w := fun _ _ _ _ => rfl
  refine callsIn_of_wp Tryz.func114 rfl trivial ?_ rfl
  simp only [Tryz.ntmps114, List.size_toArray, List.length_cons, List.length_nil, Nat.reduceAdd, Nat.reduceSub, Array.replicate_succ, Array.replicate_zero, List.push_toArray, List.append_toArray, List.nil_append, List.cons_append]
  gi_wp2
  go_ret
  exact ⟨rfl, rfl⟩
theorem drew_grown (W : World) : W.grownBy W.drew none := ⟨rfl, rfl, rfl, Nat.le_refl _, fun _ _ _ => rfl⟩
theorem chunk_stops (n : Nat) (hn : 1 ≤ n) (Bs Bn N g off cap : Nat) (a : Option Addr) (ha : 0 < N → a = some ⟨g, off, none⟩) (hcap : N * 64 ≤ cap) (hm : cap ≤ 9223372036854775807) (hN : N ≤ 4096) (w : World) (h1 : Bs < w.heap.size) (h2 : Bn < w.heap.size)
    (hBs : w.cell? ⟨Bs, 0, none⟩ = some (.slice a (N * 64) cap)) (hBn : w.cell? ⟨Bn, 0, none⟩ = some (.int .i64 64)) :
    SeqStopsK Fence.wide n Tryz.prog 132 #[.pointer (some ⟨Bs, 0, none⟩), .pointer (some ⟨Bn, 0, none⟩)] (encC g off N) (cellK Bs Bn) (fun ys => ys = List.finRange N) (fun pre => pre <+: List.finRange N) N w := fun l J Jx W hW hJ hJx hY h0 =>
  chunk1_in n hn l Bs Bn N g off cap a ha hcap hm hN J Jx hY W ((hW.cell (p := ⟨Bs, 0, none⟩) h1).trans hBs) ((hW.cell (p := ⟨Bn, 0, none⟩) h2).trans hBn) h0
    (fun pre W1 hj => hJ pre W1 W1.drew none hj (drew_grown W1) (by simp))

/-- A new file's blocks. -/
structure NewFi (B : Nat) (W : World) (fb : Nat) (vn vs : Value) (ss : List Sec) : Prop where
  le : B ≤ fb
  rows : ∀ k, vn.ownBlock = some k ∨ vs.ownBlock = some k → B ≤ k
  ok : ∀ num, FiOk W ⟨num, fb, vn, vs, ss, ss⟩
theorem NewFi.grows {B : Nat} {W W' : World} {fb : Nat} {vn vs : Value} {ss : List Sec} (h : NewFi B W fb vn vs ss) (g : Grows W W') : NewFi B W' fb vn vs ss :=
  ⟨h.le, h.rows, fun num => (h.ok num).kept (g.block _ (kind_lt (kind_cells (h.ok num).row))) fun k hk => g.block k (kind_lt ((h.ok num).kind hk))⟩
set_option maxRecDepth 100000 in
theorem pCloneSec (v : Value) (ss : List Sec) (w : World) (h : w.ownsRow 0 106 64 v ss.length (ss.flatMap secC)) (h64 : ∀ p ∈ ss, p.length = 64) (hl : ss.length ≤ 4096) :
    Calls Tryz.prog 56 #[v] w fun e w' => ∃ v', e = .returned v' ∧ w'.ownsRow w.heap.size 106 64 v' ss.length (ss.flatMap secC) ∧ Grows w w' := by
  obtain ⟨i0, z0, hi, hz, hs, hb, hzc⟩ := infoSec_parts
  have hzs : z0.cells.size = 64 := by rw [hzc]; simp
  have hq := Lib.run_eql_slice_nil (P := Tryz.prog)
  rcases h.2 with ⟨rfl, h0⟩ | ⟨g, cap, cur, rfl, _, hg, _⟩
  · have hss : ss = [] := List.eq_nil_of_length_eq_zero h0
    subst hss
    clear h h0
    go_enter Tryz.func56, Tryz.ntmps56
    go_wp2
    go_ret
    exact ⟨_, rfl, ⟨by simp, .inl ⟨rfl, rfl⟩⟩, Below.refl _ _⟩
  · have Hc := Lib.hid (fun j u (hj : (ss.flatMap secC)[j]? = some u) => own_cell h j u hj)
    have Hl := Lib.hid hl
    have H64 := Lib.hid h64
    obtain ⟨n, Hn⟩ : ∃ n, Hid (ss.length = n) := ⟨_, rfl⟩
    rw [Hn.out] at Hl ⊢
    clear h hg hl h64
    go_enter Tryz.func56, Tryz.ntmps56
    go_wp2_with (at_builtin; refine wpList_append_own _ rfl _ _ 110 rfl w.heap.size 106 i0 z0 64 64 Tryz.underlying110 hi hz hs hb hzs (by decide) _ 0 [] rfl ⟨by simp, .inr ⟨w.heap.size, 0, #[], rfl, Nat.le_refl _, heap_alloc_new w _, Nat.le_refl _, by simp [maxLen], by simp, by simp⟩⟩ ⟨g, 0, none⟩ n cap (ss.flatMap secC) rfl (by rw [secC_len H64.out, Hn.out]) (fun j u hu => by rw [Addr.add_lit, Nat.zero_add]; exact (Grows.alloc' w _).cell' (Hc.out j u hu)) (fun u hu => by obtain ⟨p, _, hp⟩ := List.mem_flatMap.1 hu; exact secC_one p u hp) (by have := Hl.out; unfold maxLen; omega) (by have := Hl.out; omega) (by simp) ?_; intro v1 w1 ho hg _)
    have HO := Lib.hid ho
    have HG : Hid (Grows w w1) := ((Below.refl _ _).alloc (Nat.le_refl _) _).grown hg (by simp) (fun j hj => by cases (show some w.heap.size = some j from hj); exact Nat.le_refl _)
    obtain ⟨a1, c1, rfl⟩ := own_form ho
    clear ho hg
    go_wp2
    go_ret
    exact ⟨_, rfl, by simpa using HO.out, HG.out⟩

/-- Saved. -/
theorem rec_get {nm : Nm} {ss : List Sec} (hn : nm.length ≤ 16) (hs : ss.length ≤ 4096) (h64 : ∀ p ∈ ss, p.length = 64) (rest : List UInt8) :
    getB (recP nm ss ++ rest) = (nm, (putB nm).length, 0) ∧ (recP nm ss ++ rest).drop (putB nm).length = put ss.length ++ (ss.flatten ++ rest) ∧
    ((recP nm ss ++ rest).drop ((putB nm).length + (put ss.length).length)).take (ss.length * 64) = ss.flatten ∧ (recP nm ss).length = (putB nm).length + (put ss.length).length + ss.length * 64 := by
  have e : recP nm ss ++ rest = putB nm ++ (put ss.length ++ (ss.flatten ++ rest)) := by unfold recP; simp
  have hfl := svFlat64 h64
  refine ⟨?_, ?_, ?_, ?_⟩
  · rw [e]
    have := getB_put nm (put ss.length ++ (ss.flatten ++ rest)) (by omega)
    unfold putB
    rw [this]
    simp
  · rw [e, List.drop_left]
  · rw [e, ← List.drop_drop, List.drop_left, List.drop_left, List.take_left' (by rw [hfl]; omega)]
  · unfold recP
    simp only [List.length_append]
    omega
theorem svFlatGet {ss : List Sec} (h64 : ∀ p ∈ ss, p.length = 64) (x : Nat) (hx : x < ss.length) (j : Nat) (hj : j < 64) : ss.flatten.getD (x * 64 + j) 0 = (ss[x]).getD j 0 := by
  induction ss generalizing x with
  | nil => simp at hx
  | cons a l ih =>
    have ha := h64 a (by simp)
    cases x with
    | zero =>
      rw [List.flatten_cons, List.getD_eq_getElem?_getD, List.getElem?_append_left (by omega), List.getD_eq_getElem?_getD]
      simp
    | succ x =>
      have := ih (fun p hp => h64 p (by simp [hp])) x (by simpa using hx)
      rw [List.flatten_cons, List.getD_eq_getElem?_getD, List.getElem?_append_right (by omega), ← List.getD_eq_getElem?_getD, show (x + 1) * 64 + j - a.length = x * 64 + j by omega, this]
      simp
/-- A row that is appended to in place, amid a region. -/
def chT (B gs k N : Nat) (xs ys : List Value) (i1 : Nat) (use : Array (List Nat)) : StateK :=
  { Ψ := fun s W => match s with
      | 0 => W.ownsRow B 106 64 (.slice (some ⟨gs, 0, none⟩) k N) k xs
      | 1 => W.ownsRow B 106 64 (.slice (some ⟨gs, 0, none⟩) (k + 1) N) (k + 1) (xs ++ ys)
      | _ => True
    made := #[none, some i1], kl := #[[i1], []], use := use, muts := [i1] }
theorem chT_ks {O : Nat → Prop} (B gs k N : Nat) (xs ys : List Value) (i1 : Nat) (use : Array (List Nat)) : ∀ i s W W', i ∉ (chT B gs k N xs ys i1 use).kl.getD s [] → (chT B gs k N xs ys i1 use).made.getD s none ≠ some i → (chT B gs k N xs ys i1 use).rel (But O) i W W' → (chT B gs k N xs ys i1 use).Ψ s W → (chT B gs k N xs ys i1 use).Ψ s W' := by
  intro i s W W' h1 h2 h3 h4
  match s with
  | 0 =>
    have hi : i ≠ i1 := by simpa [chT] using h1
    have h5 : Grows W W' := by simpa [StateK.rel, chT, hi] using h3
    exact own_grows h4 h5
  | 1 =>
    have hi : i ≠ i1 := by intro e; exact h2 (by rw [e]; rfl)
    have h5 : Grows W W' := by simpa [StateK.rel, chT, hi] using h3
    exact own_grows h4 h5
  | _ + 2 => trivial
theorem chT_made {B gs k N : Nat} {xs ys : List Value} {i1 : Nat} {use : Array (List Nat)} {j : Nat} (h : (chT B gs k N xs ys i1 use).made.getD 1 none = some j) : i1 = j := by simpa [chT] using h
theorem bytB_own {β : Type} (n₀ : Nat) (v : Value) (l : List UInt8) : Go.Own (fun (_ : β) W => BytB n₀ W v l) := by
  rintro s X Y row ⟨a, cap, e, h1, h2, h3, h4⟩ hg hrow
  refine ⟨a, cap, e, h1, h2, h3, h4.imp id ?_⟩
  rintro ⟨b, off, e2, hb, hc⟩
  refine ⟨b, off, e2, hb, fun i hi => ?_⟩
  have hci := hc i hi
  have hk := hg.block b (World.block_lt_of_cell? X _ hci) (fun e3 => by
    obtain ⟨o, ho, hco⟩ := hrow b e3.symm
    unfold World.cell? at hci
    rw [ho] at hci
    cases o <;> simp [Obj.isCells] at hco hci)
  unfold World.cell? at hci ⊢
  rw [hk]
  exact hci
theorem cellK_put {a b n : Nat} (_ : True) : ∀ (W : World) (l : Nat) (o o' : Obj), n ≤ l → W.heap[l]? = some o → o.isCells = false → o.isWalk = false → cellK a b W (W.putObj l o') := by
  intro W l o o' hl ho hc hw i hi u hu
  have hne : i ≠ l := by
    intro e
    rw [e] at hu
    unfold World.cell? at hu
    rw [ho] at hu
    cases o <;> simp [Obj.isCells] at hc hu
  exact ((grownBy_putObj' W l o').block i (World.block_lt_of_cell? W _ hu) (fun e => by cases e; exact hne rfl) |> fun hk => by
    unfold World.cell? at hu ⊢
    rw [hk]
    exact hu)
section
attribute [local go_sem] Oper.semAt_some
set_option maxRecDepth 100000 in
set_option maxHeartbeats 4000000 in
theorem saved_in (n : Nat) (hn : 3 ≤ n) (vb : Value) (b : List UInt8) (w : World) (hb : Byt w vb b) (nm : Nm) (ss : List Sec) (rest : List UInt8) (hbs : b = recP nm ss ++ rest) (hnm : nameOK nm = true) (hss : ss.length ≤ 4096) (h64 : ∀ p ∈ ss, p.length = 64) (hbl : b.length ≤ 1000000000) :
    CallsIn Fence.wide n Tryz.prog 96 #[vb] w fun e w' => ∃ fb vn vs, e = .returned (.tuple #[sv nm, pv fb, nv (recP nm ss).length]) ∧ Below w.heap.size w w' ∧ NewFi w.heap.size w' fb vn vs ss := by
  have h1 : 1 ≤ n := by omega
  have hmx : Tryz.prog.follows .mixedOrders = true := by kernel_rfl
  obtain ⟨i5, hi5, hz5, hs5, hb5⟩ := info_parts info5
  obtain ⟨h16, h1l⟩ := nameOK_len hnm
  obtain ⟨g1, g2, g3, g4⟩ := rec_get h16 hss h64 rest
  obtain ⟨k1, Hk1⟩ : ∃ y, Hid ((putB nm).length = y) := ⟨_, rfl⟩
  obtain ⟨k2, Hk2⟩ : ∃ y, Hid ((put ss.length).length = y) := ⟨_, rfl⟩
  obtain ⟨N, HN⟩ : ∃ y, Hid (ss.length = y) := ⟨_, rfl⟩
  obtain ⟨m, Hm⟩ : ∃ y, Hid (b.length = y) := ⟨_, rfl⟩
  obtain ⟨nl, Hnl⟩ : ∃ y, Hid (nm.length = y) := ⟨_, rfl⟩
  have hle : (putB nm).length + (put ss.length).length + ss.length * 64 ≤ b.length := by rw [hbs, List.length_append, ← g4]; omega
  rw [← hbs] at g1 g2 g3
  have hk1 := svPutLen nm.length
  have hk1' : (putB nm).length ≤ 26 := by unfold putB; rw [List.length_append]; omega
  have hk2 := svPutLen ss.length
  rw [Hk1.out, Hk2.out, HN.out, Hm.out] at hle
  rw [Hk1.out] at hk1' g2
  rw [Hk2.out] at hk2
  rw [HN.out] at hss
  have hgt : get (b.drop k1) = (N, k2, 0) := by
    rw [g2]
    have := get_put ss.length (by have := HN.out; omega) (ss.flatten ++ rest)
    rw [this, HN.out]
    rw [← HN.out, Hk2.out]
  have HGB : Hid (∀ W, Byt W vb b → Calls Tryz.prog 112 #[vb] W fun e w' => ∃ a1 c1, e = .returned (.tuple #[.slice a1 nl c1, .int .i64 k1, .int .i64 0]) ∧ Byt w' (.slice a1 nl c1) nm ∧ Grows W w') := by
    intro W hW
    refine (vGetBytes vb b W hW (by omega)).mono ?_
    rintro e w' ⟨v', rfl, ho, hg⟩
    rw [g1] at ho ⊢
    obtain ⟨a1, c1, rfl⟩ := own_form ho
    exact ⟨a1, c1, by rw [Hnl.out, Hk1.out]; rfl, by have h2 := Own.byt ho; rw [Hnl.out] at h2; exact h2, hg⟩
  have HGT : Hid (∀ v W, Byt W v (b.drop k1) → Calls Tryz.prog 113 #[v] W fun e w' => e = .returned (.tuple #[.int .u64 N, .int .i64 k2, .int .i64 0]) ∧ Grows W w') := by
    intro v W hW
    refine (vGet v _ W hW).mono ?_
    rintro e w' ⟨rfl, hg⟩
    rw [hgt]
    exact ⟨rfl, hg⟩
  have HIN := Lib.hid (fun W => pIsName nm trivial W)
  unfold sv at HIN
  rw [hnm] at HIN
  obtain ⟨ab, cb, rfl⟩ := hb.slice
  have Hb := Lib.hid hb
  have H64 := Lib.hid h64
  have hbI := hb
  rw [Hm.out] at Hb HGB ⊢
  have HG3 : Hid ((b.drop (k1 + k2)).take (N * 64) = ss.flatten) := by show _ = _; rw [← g3, Hk1.out, Hk2.out, HN.out]
  have Hg4 : Hid ((recP nm ss).length = k1 + k2 + N * 64) := by show _ = _; rw [g4, Hk1.out, Hk2.out, HN.out]
  have hmI : (m : Int) ≤ 1000000000 := by have := Hm.out; omega
  have hNI : (N : Int) ≤ 4096 := by omega
  have hk1I : (k1 : Int) ≤ 26 := by omega
  have hk2I : (k2 : Int) ≤ 10 := by omega
  have hleI : (k1 : Int) + (k2 : Int) + (N : Int) * 64 ≤ (m : Int) := by omega
  clear g1 g2 g3 g4 hgt hnm hb hbI hbs hk1
  refine callsIn_of_wp_marks Tryz.func96 rfl trivial ?_ rfl
  simp only [Tryz.ntmps96, List.size_toArray, List.length_cons, List.length_nil, Nat.reduceAdd, Nat.reduceSub, Array.replicate_succ, Array.replicate_zero, List.push_toArray, List.append_toArray, List.nil_append, List.cons_append]
  have hfa : Fence.wide.fn 112 := trivial
  have hfb : Fence.wide.fn 100 := trivial
  have hfc : Fence.wide.fn 113 := trivial
  have hfd : Fence.wide.fn 114 := trivial
  obtain ⟨iS, zS, hiS, hzS, hsS, hbS, hzcS⟩ := infoSec_parts
  have hk1b : k1 ≤ b.length := by rw [Hm.out]; omega
  have Hsz : Hid (N ≤ 4096) := by show _ ≤ _; omega
  have HbL : Hid (Byt w (.slice ab b.length cb) b) := by have h9 := Hb.out; rw [← Hm.out] at h9; exact h9
  gi_wp2_with (first
    | (gi_at_call 112; refine (callsIn_wide.2 (HGB.out _ Hb.out)).mono ?_; rintro e w1 ⟨a1, c1, rfl, hb1, hg1⟩; have Hb1 := Lib.hid hb1; have HG1 := Lib.hid hg1; clear hb1 hg1)
    | (refine listIn_conv rfl _ 36 5 9 rfl Tryz.underlying36 Tryz.underlying5 Tryz.underlying9 (.slice a1 nl c1) nm rfl Hb1.out ?_)
    | (gi_at_call 100; refine (callsIn_wide.2 (HIN.out _)).mono ?_; rintro e w2 ⟨rfl, rfl⟩; have HGw := Lib.hid HG1.out)
    | (refine listIn_from rfl _ _ 36 i5 rfl Tryz.underlying36 hi5 hs5 (.slice ab m cb) b rfl (Hb.out.grows HGw.out) k1 .i64 rfl hk1b ?_; intro a3 c3 hb3; have Hb3 := Lib.hid hb3; clear hb3)
    | (gi_at_call 113; refine (callsIn_wide.2 (HGT.out _ _ Hb3.out)).mono ?_; rintro e w3 ⟨rfl, hg3⟩; have HG3w : Hid (Grows w w3) := Grows.trans' HGw.out hg3; have HNB : Hid (BytB w3.heap.size w3 (.slice a1 nl c1) nm) := BytB.of_byt (Hb1.out.grows hg3); clear hg3)
    | (refine wpListIn_make_own _ rfl _ _ 110 rfl w.heap.size 106 iS zS 64 Tryz.underlying110 hiS hzS hsS .i64 .u64 (N : Int) N rfl rfl rfl (by rw [hbS]; have := Hsz.out; omega) (by have := Hsz.out; unfold maxLen; omega) HG3w.out.size ?_; intro w4 hrow4 hg4; have Hrow4 := Lib.hid hrow4; have HG4 : Hid (Grows w w4) := Below.grown HG3w.out hg4 HG3w.out.size (fun j hj => by cases hj); have HG34w : Hid (Grows w3 w4) := Below.grown (Below.refl _ _) hg4 (Nat.le_refl _) (fun j hj => by cases hj); clear hrow4 hg4)
    | (refine listIn_slice rfl _ _ _ 36 i5 rfl Tryz.underlying36 hi5 hs5 ab cb b (by rw [Hm.out]; rfl) HbL.out (k1 + k2) (k1 + k2 + N * 64) .i64 .i64 rfl rfl (by omega) (by rw [Hm.out]; omega) ?_; intro a5 c5 hb5'; rw [show k1 + k2 + N * 64 - (k1 + k2) = N * 64 by omega] at hb5' ⊢; have Hb5 := Lib.hid hb5'; clear hb5')
    | (gi_at_call 114; refine (chunk_in (n - 1) _ ⟨_, _, _, rfl⟩ _).mono ?_; rintro e w6 ⟨rfl, rfl⟩)
    | fail)
  obtain ⟨gs, Hgs⟩ : ∃ y, Hid (w3.heap.size = y) := ⟨_, rfl⟩
  rw [Hgs.out] at Hrow4 HNB ⊢
  obtain ⟨Bx, HBx⟩ : ∃ y, Hid (w4.heap.size = y) := ⟨_, rfl⟩
  obtain ⟨W0, HW0⟩ : ∃ W0, Hid (((w4.alloc (.cells #[.slice (some ⟨gs, 0, none⟩) 0 N] 110)).alloc (.cells #[.slice a5 (N * 64) c5] 36)).alloc (.cells #[.int .i64 64] 3) = W0) := ⟨_, Lib.hid rfl⟩
  rw [HW0.out, HBx.out]
  have HG34 : Hid (Below gs w3 w4) := by rw [← Hgs.out]; exact HG34w.out
  have hgw : Grows w4 W0 := by rw [← HW0.out]; exact (((Below.refl _ w4).alloc (Nat.le_refl _) _).alloc (by simp) _).alloc (by simp; omega) _
  have bX : Boxed W0 Bx 110 (.slice (some ⟨gs, 0, none⟩) 0 N) := by rw [← HW0.out, ← HBx.out]; exact ((Boxed.new w4 _ _).alloc _).alloc _
  have hrow0 : W0.ownsRow w.heap.size 106 64 (.slice (some ⟨gs, 0, none⟩) 0 N) 0 [] := own_grows Hrow4.out hgw
  have hN0 : BytB gs W0 (.slice a1 nl c1) nm := BytB.below (HG34.out.trans (hgw.mono (by have := HG34.out.size; have := (World.ownsRow.lt Hrow4.out gs rfl).2; omega))) HNB.out
  have hB0 : Below w.heap.size w W0 := Grows.trans' HG4.out hgw
  have hsz0 : W0.heap.size = Bx + 3 := by rw [← HW0.out, ← HBx.out]; simp
  have Hsz0 := Lib.hid hsz0
  have hcs : W0.cell? ⟨Bx + 1, 0, none⟩ = some (.slice a5 (N * 64) c5) := by
    rw [← HW0.out, ← HBx.out]
    exact (((Boxed.new (w4.alloc _) 36 (.slice a5 (N * 64) c5)).alloc _).cell : World.cell? _ ⟨(w4.alloc _).heap.size, 0, none⟩ = _).trans rfl |> fun h => by simpa using h
  have hcn : W0.cell? ⟨Bx + 1 + 1, 0, none⟩ = some (.int .i64 64) := by
    rw [← HW0.out, ← HBx.out]
    have h9 := (Boxed.new ((w4.alloc (.cells #[.slice (some ⟨gs, 0, none⟩) 0 N] 110)).alloc (.cells #[.slice a5 (N * 64) c5] 36)) 3 (.int .i64 64)).cell
    simpa using h9
  have HgsB : Hid (gs < Bx ∧ w.heap.size ≤ gs) := by show _ ∧ _; rw [← HBx.out]; exact ⟨(World.ownsRow.lt Hrow4.out gs rfl).2, (World.ownsRow.lt Hrow4.out gs rfl).1⟩
  have hBxw : w.heap.size ≤ Bx := by rw [← HBx.out]; exact HG4.out.size
  rw [HG3.out] at Hb5
  have hfl := svFlat64 H64.out
  rw [HN.out] at hfl
  obtain ⟨gb, offb, hab, hcap5, hm5, hcell⟩ : ∃ gb offb, (0 < N → a5 = some ⟨gb, offb, none⟩) ∧ N * 64 ≤ c5 ∧ c5 ≤ 9223372036854775807 ∧ ∀ W, Below w.heap.size w W → ∀ i, i < N * 64 → W.cell? ⟨gb, offb + i, none⟩ = some (bv (ss.flatten.getD i 0)) := by
    obtain ⟨a0, cap0, e0, q1, q2, q3, q4⟩ := BytB.of_byt Hb5.out
    simp only [Value.slice.injEq] at e0
    obtain ⟨rfl, e2, rfl⟩ := e0
    rcases q4 with q4 | ⟨gb, offb, q5, q6, q7⟩
    · have : N = 0 := by rw [q4] at hfl; simp at hfl; omega
      exact ⟨0, 0, fun h => by omega, by omega, by unfold maxLen at q2; omega, fun W _ i hi => by omega⟩
    · exact ⟨gb, offb, fun _ => q5, by rw [e2]; exact q1, by unfold maxLen at q2; omega, fun W hW i hi => (hW.cell (p := ⟨gb, offb + i, none⟩) q6).trans (q7 i (by rw [← e2]; exact hi))⟩
  have Hcell := Lib.hid hcell
  have Hfi := Lib.hid (fun (x : Fin N) => (show x.1 < ss.length by rw [HN.out]; exact x.2))
  obtain ⟨F, HF⟩ : ∃ F : Fin N → Sec, Hid (∀ x : Fin N, F x = ss[x.1]'(Hfi.out x)) := ⟨fun x => ss[x.1]'(Hfi.out x), fun x => rfl⟩
  have HF64 : Hid (∀ x, (F x).length = 64) := fun x => by rw [HF.out]; exact H64.out _ (List.getElem_mem _)
  have HFall : Hid ((List.finRange N).map F = ss) := by
    show _ = _
    apply List.ext_getElem
    · simp [HN.out]
    · intro i h1 h2
      simp [HF.out]
  clear hcell hfl hgw HGB HGT HIN hk1b
  refine wpIn_rangeFunc_ownG (F := Fence.wide) rfl h1 (gf := 132) (lb := #[.pointer (some ⟨Bx + 1, 0, none⟩), .pointer (some ⟨Bx + 1 + 1, 0, none⟩)]) rfl trivial (enters_of Tryz.func132 (by kernel_rfl) rfl)
    (chunk_stops (n - 1) (by omega) (Bx + 1) (Bx + 1 + 1) N gb offb c5 a5 hab hcap5 hm5 (by have := Hsz.out; omega) W0 (by omega) (by omega) hcs hcn)
    (fun h k => cellK.trans h k) (cellK_put trivial) (Below.refl _ _) (fun _ => rfl)
    (fun pre W => (∃ v, Boxed W Bx 110 v ∧ W.ownsRow w.heap.size 106 64 v pre.length ((pre.map F).flatMap secC) ∧ v = .slice (some ⟨gs, 0, none⟩) pre.length N) ∧ BytB gs W (.slice a1 nl c1) nm ∧ Below w.heap.size w W)
    (fun _ _ _ => False)
    (OwnFrom.and (Own.from (holdsRow_own w.heap.size Bx 110 106 64 (fun pre : List (Fin N) => pre.length) (fun pre => (pre.map F).flatMap secC) (fun pre v => v = .slice (some ⟨gs, 0, none⟩) pre.length N)) _) (OwnFrom.and (Own.from (bytB_own gs (.slice a1 nl c1) nm) _) (ownFrom_below (Nat.le_refl _) (by omega))))
    (fun _ _ _ _ _ hs _ _ => hs)
    ⟨⟨_, bX, hrow0, rfl⟩, hN0, hB0⟩ ?a1 ?assign ?body ?done ?stop
  case assign =>
    intro l x W K hK
    unfold encC
    gi_wp2
    exact hK
  case body =>
    rintro l pre x W ⟨⟨v, hbx, hrow, rfl⟩, hN, hB⟩ hlt
    obtain ⟨p, Hp⟩ : ∃ p, Hid (F x = p) := ⟨_, rfl⟩
    have Hp64 : Hid (p.length = 64) := by show _ = _; rw [← Hp.out]; exact HF64.out x
    have HPr : Hid (∀ X, Below w.heap.size w X → ∀ j u, (secC p)[j]? = some u → X.cell? ⟨gb, offb + x.1 * 64 + j, none⟩ = some u) := by
      intro X hX j u hu
      have hj : j < 64 := by have := (List.getElem?_eq_some_iff.1 hu).1; rw [secC_len1, Hp64.out] at this; exact this
      have h9 := Hcell.out X hX (x.1 * 64 + j) (by have := x.2; omega)
      rw [svFlatGet H64.out x.1 (Hfi.out x) j hj, ← HF.out x, Hp.out] at h9
      rw [Nat.add_assoc, h9]
      simp only [secC, List.getElem?_map] at hu
      rw [List.getElem?_eq_getElem (by rw [Hp64.out]; exact hj)] at hu
      simp only [Option.map_some] at hu
      rw [← hu, List.getD_eq_getElem?_getD, List.getElem?_eq_getElem (by rw [Hp64.out]; exact hj)]
      rfl
    obtain ⟨ox, Hox⟩ : ∃ y, Hid (offb + x.1 * 64 = y) := ⟨_, rfl⟩
    rw [Hox.out] at HPr ⊢
    obtain ⟨k, Hk⟩ : ∃ y, Hid (pre.length = y) := ⟨_, rfl⟩
    rw [Hk.out] at hbx hrow
    have hkN : k + 1 ≤ N := by rw [← Hk.out]; exact hlt
    obtain ⟨xs, Hxs⟩ : ∃ y, Hid ((pre.map F).flatMap secC = y) := ⟨_, rfl⟩
    rw [Hxs.out] at hrow
    have hneB : ¬ Bx = gs := fun e => by have := HgsB.out.1; omega
    have Hrow := Lib.hid hrow
    have HBw := Lib.hid hB
    have cX := hbx.cell
    have Hbx := Lib.hid hbx
    have HkN := Lib.hid hkN
    have HN1 := Lib.hid hN
    clear hN
    clear hrow hB hbx hlt bX hrow0 hN0 hB0 hsz0 hcs hcn hab hcap5 hm5 hBxw
    gi_wp2
    refine region_R_last (E := (But (fun k => k = gs))) (But.ok _) But.ofGrows 6
      #[[], [], [1], [1, 2], [1, 2, 3], [0, 1, 2, 3, 4], [0, 1, 2, 3, 4, 5]] #[[11], [12], [], [], [], [], [11]] #[true, true, true, true, true, true, true]
      ((.val ?vc0) :: (.val ?vc1) :: (.val (.pointer (some ⟨gb, ox, none⟩))) :: (.val (.agg (secC p).toArray)) :: (.pred (fun v W => ∃ g5, v = .slice (some ⟨g5, 0, none⟩) 1 1 ∧ ¬ g5 = gs ∧ ∀ j u, (secC p)[j]? = some u → W.cell? ⟨g5, j, none⟩ = some u) (fun v a b h ho => by obtain ⟨g5, e, hne, hc⟩ := ho; exact ⟨g5, e, hne, fun j u hu => But.cell h hne (hc j u hu)⟩)) :: (.val (.slice (some ⟨gs, 0, none⟩) (k + 1) N)) :: (.any) :: []).toArray
      (chT w.heap.size gs k N xs (secC p) 5 #[[], [], [], [], [], [0], []])
      (chT_ks _ _ _ _ _ _ _ _)
      (fun s hs => match s, hs with | 0, _ => own_grows Hrow.out (Grows.drew' _) | 1, h => by simp [chT] at h | _ + 2, _ => trivial)
      ⟨hmx, rfl⟩ ?chkc rfl rfl ?grdc rfl ?stpc ?rstc
    case chkc => rfl
    case stpc =>
      refine ⟨?_, ?_, ?_, ?_, ?_, ?_, ?_, trivial⟩
      · refine step_introK rfl rfl fun ρ X hc hf hgl hX hp ho hu => ?_
        change StepOk _ { dst := _, op := Op.load 110 (Operand.tmp 11), type := _, pos := _, after := _, guard := _ } _ _ _
        have k11 : ρ (.tmp 11) = .pointer (some ⟨Bx, 0, none⟩) := ho 11 (by decide)
        refine stepK_plain (i := 0) rfl ?_
        clear hu
        have cXX := But.cell hX hneB cX
        clear hp ho
        refine StepOk.of_run (v := ?vc0) (w' := X) ?_ ⟨rfl, Below.refl _ _⟩
        clear hX
        go_simp
        all_goals try go_bits
        all_goals try simp only [IntWalk.iteOmega]
        all_goals try go_bits
        all_goals rfl
      · refine step_introK rfl rfl fun ρ X hc hf hgl hX hp ho hu => ?_
        change StepOk _ { dst := _, op := Op.move (Operand.tmp 12), type := _, pos := _, after := _, guard := _ } _ _ _
        have k12 : ρ (.tmp 12) = .slice (some ⟨gb, ox, none⟩) 64 64 := ho 12 (by decide)
        refine stepK_plain (i := 1) rfl ?_
        clear hu
        clear hp ho
        refine StepOk.of_run (v := ?vc1) (w' := X) ?_ ⟨rfl, Below.refl _ _⟩
        clear hX
        go_simp
        all_goals try go_bits
        all_goals try simp only [IntWalk.iteOmega]
        all_goals try go_bits
        all_goals rfl
      · refine step_introK rfl rfl fun ρ X hc hf hgl hX hp ho hu => ?_
        change StepOk _ { dst := _, op := Op.sliceToArrayPointer 106 (Operand.tmp 62), type := _, pos := _, after := _, guard := _ } _ _ _
        have k62 : ρ (.tmp 62) = ?vc1 := hp 1 (by decide)
        refine stepK_plain (i := 2) rfl ?_
        clear hu
        clear hp ho
        refine StepOk.of_run (v := .pointer (some ⟨gb, ox, none⟩)) (w' := X) ?_ ⟨rfl, Below.refl _ _⟩
        simp [execOp, Instr.arrayAt, run_underlying Tryz.underlying106, k62]
      · refine step_introK rfl rfl fun ρ X hc hf hgl hX hp ho hu => ?_
        change StepOk _ { dst := _, op := Op.load 106 (Operand.tmp 63), type := _, pos := _, after := _, guard := _ } _ _ _
        have k63 : ρ (.tmp 63) = (.pointer (some ⟨gb, ox, none⟩)) := hp 2 (by decide)
        refine stepK_plain (i := 3) rfl ?_
        clear hu
        have hBX : Below w.heap.size w X := HBw.out.trans (But.below hX HBw.out.size (fun k hk => by rw [hk]; exact HgsB.out.2))
        refine stepOk_loadPart 106 _ rfl gb ox (secC p) _ k63 (fun j u hu => HPr.out X hBX j u hu) Tryz.underlying106 rfl (by rw [sizeSec, secC_len1, Hp64.out]) ⟨rfl, Below.refl _ _⟩
      · refine step_introK rfl rfl fun ρ X hc hf hgl hX hp ho hu => ?_
        change StepOk _ { dst := _, op := Op.buildSlice 110 1 #[(0, Operand.tmp 64)], type := _, pos := _, after := _, guard := _ } _ _ _
        have k64 : ρ (.tmp 64) = (.agg (secC p).toArray) := hp 3 (by decide)
        refine stepK_plain (i := 4) rfl ?_
        clear hu
        clear hp ho
        have hbs := run_buildSlice1 (P := Tryz.prog) X 110 106 iS zS 64 (secC p) Tryz.underlying110 hiS hzS hsS ((secC_len1 p).trans Hp64.out) (by omega) (by omega)
        refine StepOk.of_run (v := .slice (some ⟨X.heap.size, 0, none⟩) 1 1) (w' := X.alloc (.cells (secC p).toArray 106)) ?_ ⟨⟨_, rfl, fun e => ?_, fun j u hu => ?_⟩, Grows.alloc' _ _⟩
        · simp only [execOp, List.map_toArray, List.map_cons, List.map_nil, k64, hbs, Sem.run_bind, Result.andThen_ok, Sem.run_pure]
        · have h1 := (World.ownsRow.lt Hrow.out gs rfl).2; have h2 := hX.size; omega
        · refine (cell_of_row _ X.heap.size _ _ _ _ (heap_alloc_new X _)).trans ?_; simpa using hu
      · refine step_introK rfl rfl fun ρ X hc hf hgl hX hp ho hu => ?_
        change StepOk _ { dst := _, op := Op.call { callee := Callee.builtin Builtin.append, args := #[Operand.tmp 61, Operand.tmp 65], argTypes := #[110, 110] }, type := _, pos := _, after := _, guard := _ } _ _ _
        have k61 : ρ (.tmp 61) = ?vc0 := hp 0 (by decide)
        have k65 := hp 4 (by decide)
        have hu0 := hu
        have hst : X.ownsRow w.heap.size 106 64 (.slice (some ⟨gs, 0, none⟩) k N) k xs := hu 0 (by simp [chT])
        clear hp ho
        refine stepK_made rfl ?_
        obtain ⟨g5, e5, hne5, hc5⟩ := k65
        obtain ⟨W', hr, ho', hgb'⟩ := run_append_fits (P := Tryz.prog) X w.heap.size 110 110 106 iS 64 Tryz.underlying110 hiS hsS gs k N xs hst ⟨g5, 0, none⟩ 1 1 (secC p) ((secC_len1 p).trans Hp64.out) (fun j u hu => by rw [Addr.add_lit, Nat.zero_add]; exact hc5 j u hu) (secC_one p) HkN.out
        refine StepOk.of_run (v := .slice (some ⟨gs, 0, none⟩) (k + 1) N) (w' := W') ?_ ⟨rfl, But.grown hgb' (fun j hj => (Option.some.inj hj).symm), fun s hs => ?_⟩
        · simp only [execOp, resolve, invoke, builtin, Sem.run_bind, Sem.run_pure, Result.andThen_ok, List.map_toArray, List.map_cons, List.map_nil, k61, e5, hr]
        · match s, hs with
          | 0, h => simp [chT] at h
          | 1, _ => exact ho'
          | _ + 2, h => simp [chT] at h
      · exact last_intro rfl
    case grdc => rfl
    case rstc =>
      intro a0 X hb
      obtain ⟨x65, hx65⟩ : ∃ x, a0.tmps.getD 65 undef = x := ⟨_, rfl⟩
      have p65 := hb.done' 4 65 rfl rfl
      rw [hx65] at p65
      have hfr := hb.frame ((61, ?vc0) :: (62, ?vc1) :: (63, (.pointer (some ⟨gb, ox, none⟩))) :: (64, (.agg (secC p).toArray)) :: (65, x65) :: (66, (.slice (some ⟨gs, 0, none⟩) (k + 1) N)) :: []) rfl ⟨hb.done' 0 61 rfl rfl, hb.done' 1 62 rfl rfl, hb.done' 2 63 rfl rfl, hb.done' 3 64 rfl rfl, hx65, hb.done' 5 66 rfl rfl, trivial⟩
      simp only [updL, ↓reduceIte, Nat.reduceEqDiff, Nat.reduceAdd, Nat.zero_add] at hfr
      have HX := Lib.hid hb.ext
      have HST0 := hb.stat 1 (fun j hj => (by cases chT_made hj; exact ⟨by simp, by simp⟩)) (by simp [chT])
      clear hb
      subst hfr
      change StepOk _ { dst := _, op := Op.store 110 (Operand.tmp 11) (Operand.tmp 66), type := _, pos := _, after := _, guard := _ } _ _ _
      have hst1 : X.ownsRow w.heap.size 106 64 (.slice (some ⟨gs, 0, none⟩) (k + 1) N) (k + 1) (xs ++ secC p) := HST0
      have cX2 := But.cell HX.out hneB cX
      have hbX : Boxed X Bx 110 (.slice (some ⟨gs, 0, none⟩) k N) := But.blockEq HX.out hneB Hbx.out
      have fX2 : X.frozen? ⟨Bx, 0, none⟩ = false := hbX.frozen
      have Hst1 := Lib.hid hst1
      have HbX := Lib.hid hbX
      have HX1 := Lib.hid HX.out
      clear hst1 HX hbX
      unfold StepOk
      simp [go_sem, execOp, cX2, fX2]
      gi_wp2
      have hb2 : Boxed (X.setCell ⟨Bx, 0, none⟩ (.slice (some ⟨gs, 0, none⟩) (k + 1) N)) Bx 110 (.slice (some ⟨gs, 0, none⟩) (k + 1) N) := HbX.out.set _
      have hset : But (fun k => k = Bx) X (X.setCell ⟨Bx, 0, none⟩ (.slice (some ⟨gs, 0, none⟩) (k + 1) N)) := But.setCell (But.refl' _ _) _ _ rfl
      have hlen9 : (pre ++ [x]).length = k + 1 := by rw [List.length_append, Hk.out]; rfl
      refine ⟨?_, ?_, ⟨?_, ?_⟩, ?_, ?_⟩
      · refine KeepsOthers.from (KeepsOthers.trans (⟨HX1.out.size, fun j o hj hc => (HX1.out.block j (Array.getElem?_eq_some_iff.1 hj).1 (fun e => ?_)).trans hj⟩ : KeepsOthers W X) (KeepsOthers.setCell _ _ _)) _
        rcases Hrow.out.2 with ⟨h8, _⟩ | ⟨g8, c8, cur8, h8, _, h9, _⟩
        · cases h8
        · simp only [Value.slice.injEq, Option.some.injEq, Addr.mk.injEq] at h8
          rw [e, h8.1.1, h9] at hj
          cases hj
          cases hc
      · intro i hi u hu
        have h8 := HgsB.out.1
        refine But.cell hset ?_ (But.cell HX1.out ?_ hu)
        · show ¬ i = Bx; omega
        · show ¬ i = gs; omega
      · show Boxed _ Bx _ (.slice _ (pre ++ [x]).length N)
        rw [hlen9]
        exact hb2
      · show World.ownsRow _ _ _ _ (.slice _ (pre ++ [x]).length N) (pre ++ [x]).length (List.flatMap secC (List.map F (pre ++ [x])))
        rw [hlen9, List.map_append, List.flatMap_append, Hxs.out]
        simp only [List.map_cons, List.map_nil, List.flatMap_cons, List.flatMap_nil, List.append_nil, Hp.out]
        exact own_but Hst1.out hset (fun j hj e => by cases (show some gs = some j from hj); exact hneB e.symm)
      · have h8 := HgsB.out.1
        exact BytB.below ((But.below HX1.out (by have h7 := (World.ownsRow.lt Hrow.out gs rfl).2; omega) (fun k hk => by rw [hk]; exact Nat.le_refl _)).setCell (p := ⟨Bx, 0, none⟩) (by show gs ≤ Bx; omega) _) HN1.out
      · have h8 := HgsB.out
        exact (HBw.out.trans (But.below HX1.out HBw.out.size (fun k hk => by rw [hk]; exact HgsB.out.2))).setCell (p := ⟨Bx, 0, none⟩) (by show w.heap.size ≤ Bx; omega) _
  case done =>
    rintro D ys W hD rfl ⟨⟨v, hbx, hrow, rfl⟩, hN, hB⟩ hK
    rw [HFall.out] at hrow
    simp only [List.length_finRange] at hbx hrow
    have cX := hbx.cell
    have hcl := Lib.hid (fun X (hX : Grows W X) => pCloneSec (.slice (some ⟨gs, 0, none⟩) N N) ss X (by have h9 := ownsRow_base_a (base' := 0) (own_grows hrow hX) (by omega); rw [← HN.out] at h9 ⊢; exact h9) H64.out (by have := HN.out; have := Hsz.out; omega))
    have Hrow := Lib.hid hrow
    have HBw := Lib.hid hB
    have HK := Lib.hid hK
    have HbN : Hid (Byt W (.slice a1 nl c1) nm) := by obtain ⟨a7, c7, h1, h2, h3, h4, h5⟩ := hN; exact ⟨a7, c7, h1, h2, h3, h4, h5.imp id fun ⟨b7, o7, q1, _, q2⟩ => ⟨b7, o7, q1, q2⟩⟩
    have hfe : Fence.wide.fn 56 := trivial
    clear hrow hB hbx hN bX hrow0 hN0 hB0 hsz0 hcs hcn hab hcap5 hm5 hBxw hK
    gi_wp2
    refine specs_wide
      #[[], [0], [], [], [3], [2, 3, 4], [2, 3, 4, 5], [], [0, 1, 3, 4], [0, 1, 2, 3, 4, 5, 6, 8], [0, 1, 2, 3, 4, 5, 6, 7, 8, 9]] #[[5], [], [11], [11], [], [], [], [10], [], [], []] #[true, true, true, true, true, true, true, true, true, true, true]
      ((.val ?vd0) :: (.val (.string ⟨nm.toArray⟩)) :: (.val ?vd2) :: (.val ?vd3) :: (.pred (fun v W => W.ownsRow (gs + 1) 106 64 v N (ss.flatMap secC)) (fun v a b g h => own_grows h g)) :: (.pred (fun v W => ∃ a c, v = .agg #[.slice (some ⟨gs, 0, none⟩) N N, .slice a N c] ∧ W.ownsRow (gs + 1) 106 64 (.slice a N c) N (ss.flatMap secC)) (fun v a b g h => by obtain ⟨a, c, e, h⟩ := h; exact ⟨a, c, e, own_grows h g⟩)) :: (.pred (fun v W => ∃ fb a c, v = .pointer (some ⟨fb, 0, none⟩) ∧ w.heap.size ≤ fb ∧ W.heap[fb]? = some (.cells #[.slice (some ⟨gs, 0, none⟩) N N, .slice a N c] 113 (0, 0)) ∧ W.ownsRow (gs + 1) 106 64 (.slice a N c) N (ss.flatMap secC)) (fun v a b g h => by obtain ⟨fb, a, c, e, hl, hb, ho⟩ := h; exact ⟨fb, a, c, e, hl, (g.block fb (Array.getElem?_eq_some_iff.1 hb).1).trans hb, own_grows ho g⟩)) :: (.val ?vd7) :: (.val ?vd8) :: (.pred (fun v W => ∃ fb a c, v = .pointer (some ⟨fb, 0, none⟩) ∧ w.heap.size ≤ fb ∧ W.heap[fb]? = some (.cells #[.slice (some ⟨gs, 0, none⟩) N N, .slice a N c] 113 (0, 0)) ∧ W.ownsRow (gs + 1) 106 64 (.slice a N c) N (ss.flatMap secC)) (fun v a b g h => by obtain ⟨fb, a, c, e, hl, hb, ho⟩ := h; exact ⟨fb, a, c, e, hl, (g.block fb (Array.getElem?_eq_some_iff.1 hb).1).trans hb, own_grows ho g⟩)) :: (.val ?vd10) :: []).toArray
      hmx ?chkd ?grdd ?stpd ?rstd
    case chkd => rfl
    case stpd =>
      refine ⟨?_, ?_, ?_, ?_, ?_, ?_, ?_, ?_, ?_, ?_, ?_, trivial⟩
      · refine step_intro rfl rfl fun ρ X hc hf hgl hX hp ho => ?_
        change StepOk _ { dst := _, op := Op.move (Operand.tmp 5), type := _, pos := _, after := _, guard := _ } _ _ _
        have k5 : ρ (.tmp 5) = .slice a1 nl c1 := ho 5 (by decide)
        clear hp ho
        refine StepOk.of_run (v := ?vd0) (w' := X) ?_ ⟨rfl, Below.refl _ _⟩
        clear hX
        go_simp
        all_goals try go_bits
        all_goals try simp only [IntWalk.iteOmega]
        all_goals try go_bits
        all_goals rfl
      · refine step_intro rfl rfl fun ρ X hc hf hgl hX hp ho => ?_
        change StepOk _ { dst := _, op := Op.convert 36 9 (Operand.tmp 67), type := _, pos := _, after := _, guard := _ } _ _ _
        have k67 : ρ (.tmp 67) = ?vd0 := hp 0 (by decide)
        have hbb : Byt X (.slice a1 nl c1) nm := Byt.grows HbN.out hX
        clear hp ho
        refine StepOk.of_run (v := .string ⟨nm.toArray⟩) (w' := X) ?_ ⟨rfl, Below.refl _ _⟩
        simp only [execOp, Sem.run_bind, Sem.run_pure, Result.andThen_ok, k67]
        rw [run_string Tryz.underlying36 Tryz.underlying5 Tryz.underlying9 hbb]
        rfl
      · refine step_intro rfl rfl fun ρ X hc hf hgl hX hp ho => ?_
        change StepOk _ { dst := _, op := Op.load 110 (Operand.tmp 11), type := _, pos := _, after := _, guard := _ } _ _ _
        have k11 : ρ (.tmp 11) = .pointer (some ⟨Bx, 0, none⟩) := ho 11 (by decide)
        have cXX := Grows.cell' hX cX
        clear hp ho
        refine StepOk.of_run (v := ?vd2) (w' := X) ?_ ⟨rfl, Below.refl _ _⟩
        clear hX
        go_simp
        all_goals try go_bits
        all_goals try simp only [IntWalk.iteOmega]
        all_goals try go_bits
        all_goals rfl
      · refine step_intro rfl rfl fun ρ X hc hf hgl hX hp ho => ?_
        change StepOk _ { dst := _, op := Op.load 110 (Operand.tmp 11), type := _, pos := _, after := _, guard := _ } _ _ _
        have k11 : ρ (.tmp 11) = .pointer (some ⟨Bx, 0, none⟩) := ho 11 (by decide)
        have cXX := Grows.cell' hX cX
        clear hp ho
        refine StepOk.of_run (v := ?vd3) (w' := X) ?_ ⟨rfl, Below.refl _ _⟩
        clear hX
        go_simp
        all_goals try go_bits
        all_goals try simp only [IntWalk.iteOmega]
        all_goals try go_bits
        all_goals rfl
      · refine step_intro rfl rfl fun ρ X hc hf hgl hX hp ho => ?_
        change StepOk _ { dst := _, op := Op.call { callee := Callee.value (Operand.func 56), args := #[Operand.tmp 70], argTypes := #[110] }, type := _, pos := _, after := _, guard := _ } _ _ _
        have k70 : ρ (.tmp 70) = ?vd3 := hp 3 (by decide)
        clear hp ho
        have hc4 := hcl.out X hX
        refine StepOk.of_call (f := 56) (args := #[.slice (some ⟨gs, 0, none⟩) N N]) (w' := X) ?_ hc4 ?_
        · go_simp
          all_goals rfl
        · rintro e w' ⟨v', rfl, ho', hg'⟩
          rw [HN.out] at ho'
          exact ⟨v', rfl, ownsRow_base_a ho' (by have h7 := (World.ownsRow.lt Hrow.out gs rfl).2; have h8 := hX.size; omega), hg'⟩
      · refine step_intro rfl rfl fun ρ X hc hf hgl hX hp ho => ?_
        change StepOk _ { dst := _, op := Op.build 113 #[(0, Operand.tmp 69), (1, Operand.tmp 71)], type := _, pos := _, after := _, guard := _ } _ _ _
        have k69 : ρ (.tmp 69) = ?vd2 := hp 2 (by decide)
        have k71 := hp 4 (by decide)
        clear hp ho
        have k71o : X.ownsRow (gs + 1) 106 64 (ρ (.tmp 71)) N (ss.flatMap secC) := k71
        obtain ⟨a9, c9, e9⟩ := own_form k71o
        rw [e9] at k71o
        refine StepOk.of_run (v := .agg #[.slice (some ⟨gs, 0, none⟩) N N, .slice a9 N c9]) (w' := X) ?_ ⟨⟨a9, c9, rfl, k71o⟩, Below.refl _ _⟩
        have k71e : ρ (.tmp 71) = .slice a9 N c9 := e9
        clear k71 k71o e9
        simp [go_sem, execOp, k69, k71e]
      · refine step_intro rfl rfl fun ρ X hc hf hgl hX hp ho => ?_
        change StepOk _ { dst := _, op := Op.box 113 (Operand.tmp 72), type := _, pos := _, after := _, guard := _ } _ _ _
        have k72 := hp 5 (by decide)
        clear hp ho
        obtain ⟨a9, c9, e9, ho9⟩ := k72
        refine StepOk.of_run (v := .pointer (some ⟨X.heap.size, 0, none⟩)) (w' := X.alloc (.cells #[.slice (some ⟨gs, 0, none⟩) N N, .slice a9 N c9] 113)) ?_ ⟨⟨X.heap.size, a9, c9, rfl, Nat.le_trans HBw.out.size hX.size, heap_alloc_new X _, own_grows ho9 (Grows.alloc' _ _)⟩, Grows.alloc' _ _⟩
        simp [go_sem, execOp, e9]
      · refine step_intro rfl rfl fun ρ X hc hf hgl hX hp ho => ?_
        change StepOk _ { dst := _, op := Op.move (Operand.tmp 10), type := _, pos := _, after := _, guard := _ } _ _ _
        have k10 : ρ (.tmp 10) = .int .i64 ((k1 : Int) + (k2 : Int) + (N : Int) * 64) := ho 10 (by decide)
        clear hp ho
        refine StepOk.of_run (v := ?vd7) (w' := X) ?_ ⟨rfl, Below.refl _ _⟩
        clear hX
        go_simp
        all_goals try go_bits
        all_goals try simp only [IntWalk.iteOmega]
        all_goals try go_bits
        all_goals rfl
      · refine step_intro rfl rfl fun ρ X hc hf hgl hX hp ho => ?_
        change StepOk _ { dst := _, op := Op.assign (Operand.tmp 68), type := _, pos := _, after := _, guard := _ } _ _ _
        have k68 : ρ (.tmp 68) = (.string ⟨nm.toArray⟩) := hp 1 (by decide)
        clear hp ho
        refine StepOk.of_run (v := ?vd8) (w' := X) ?_ ⟨rfl, Below.refl _ _⟩
        clear hX
        go_simp
        all_goals try go_bits
        all_goals try simp only [IntWalk.iteOmega]
        all_goals try go_bits
        all_goals rfl
      · refine step_intro rfl rfl fun ρ X hc hf hgl hX hp ho => ?_
        change StepOk _ { dst := _, op := Op.assign (Operand.tmp 73), type := _, pos := _, after := _, guard := _ } _ _ _
        have k73 := hp 6 (by decide)
        clear hp ho
        refine StepOk.of_run (v := ρ (.tmp 73)) (w' := X) ?_ ⟨k73, Below.refl _ _⟩
        simp [go_sem, execOp]
      · refine step_intro rfl rfl fun ρ X hc hf hgl hX hp ho => ?_
        change StepOk _ { dst := _, op := Op.assign (Operand.tmp 74), type := _, pos := _, after := _, guard := _ } _ _ _
        have k74 : ρ (.tmp 74) = ?vd7 := hp 7 (by decide)
        clear hp ho
        refine StepOk.of_run (v := ?vd10) (w' := X) ?_ ⟨rfl, Below.refl _ _⟩
        clear hX
        go_simp
        all_goals try go_bits
        all_goals try simp only [IntWalk.iteOmega]
        all_goals try go_bits
        all_goals rfl
    case grdd => rfl
    case rstd =>
      intro a0 X hb
      obtain ⟨x3, hx3⟩ : ∃ x, a0.tmps.getD 3 undef = x := ⟨_, rfl⟩
      have p3 := hb.done' 9 3 rfl rfl
      rw [hx3] at p3
      obtain ⟨x71, hx71⟩ : ∃ x, a0.tmps.getD 71 undef = x := ⟨_, rfl⟩
      have p71 := hb.done' 4 71 rfl rfl
      rw [hx71] at p71
      obtain ⟨x72, hx72⟩ : ∃ x, a0.tmps.getD 72 undef = x := ⟨_, rfl⟩
      have p72 := hb.done' 5 72 rfl rfl
      rw [hx72] at p72
      obtain ⟨x73, hx73⟩ : ∃ x, a0.tmps.getD 73 undef = x := ⟨_, rfl⟩
      have p73 := hb.done' 6 73 rfl rfl
      rw [hx73] at p73
      have hfr := hb.frame ((2, ?vd8) :: (3, x3) :: (4, ?vd10) :: (67, ?vd0) :: (68, (.string ⟨nm.toArray⟩)) :: (69, ?vd2) :: (70, ?vd3) :: (71, x71) :: (72, x72) :: (73, x73) :: (74, ?vd7) :: []) rfl ⟨hb.done' 8 2 rfl rfl, hx3, hb.done' 10 4 rfl rfl, hb.done' 0 67 rfl rfl, hb.done' 1 68 rfl rfl, hb.done' 2 69 rfl rfl, hb.done' 3 70 rfl rfl, hx71, hx72, hx73, hb.done' 7 74 rfl rfl, trivial⟩
      simp only [updL, ↓reduceIte, Nat.reduceEqDiff, Nat.reduceAdd, Nat.zero_add] at hfr
      have HX := Lib.hid hb.ext
      clear hb
      subst hfr
      obtain ⟨fb, a9, c9, e9, hfl, hfb, hfo⟩ := p3
      subst e9
      have HX1 := Lib.hid HX.out
      have hro9 := own_grows Hrow.out HX.out
      have hK9 : X.heap[D]? = some (.deferred (some [])) := (HX.out.block D (Array.getElem?_eq_some_iff.1 HK.out).1).trans HK.out
      have Hfb := Lib.hid hfb
      have Hfo9 := Lib.hid hfo
      have Hro9 := Lib.hid hro9
      have Hfl := Lib.hid hfl
      clear hfb hfo hro9 hfl HX
      gi_wp2
      refine ⟨by simp, .inl ⟨_, _, rfl, run_takeDeferred hK9, ?_⟩⟩
      have hDw : w.heap.size ≤ D := by have := HgsB.out; have := Hsz0.out; omega
      have hbX : Below w.heap.size w X := HBw.out.trans (Below.mono HX1.out HBw.out.size)
      have hfi : ∀ num, FiOk X ⟨num, fb, .slice (some ⟨gs, 0, none⟩) N N, .slice a9 N c9, ss, ss⟩ := fun num => ⟨Hfb.out, by have h6 := ownsRow_base_a (base' := 0) Hro9.out (by omega); rw [← HN.out] at h6 ⊢; exact h6, by have h6 := ownsRow_base_a (base' := 0) Hfo9.out (by omega); rw [← HN.out] at h6 ⊢; exact h6, rfl, H64.out, H64.out, by rw [HN.out]; exact Hsz.out, fun k h1 h2 => by cases (show some gs = some k from h1); have h5 := own_bas Hfo9.out gs h2; omega⟩
      have hot : ∀ k T, kindAt X k = some (some T) → (X.putObj D (.deferred none)).heap[k]? = X.heap[k]? := fun k T hk => (grownBy_putObj' X D _).block k (kind_lt hk) (fun e => by cases e; unfold kindAt at hk; rw [hK9] at hk; cases hk)
      refine ⟨_, results_tmp3 rfl _ _ _, ⟨fb, ?_, hbX.trans (belowK_b (w := w) (Nat.le_refl _) X D _ _ hDw hK9 rfl rfl), .slice (some ⟨gs, 0, none⟩) N N, .slice a9 N c9, ⟨Hfl.out, ?_, fun num => (hfi num).kept (hot _ _ (kind_cells Hfb.out)) fun k hk => hot _ _ ((hfi num).kind hk)⟩⟩⟩
      · unfold sv pv nv
        rw [Hg4.out]
        simp
      · rintro k (hk | hk)
        · cases (show some gs = some k from hk); exact HgsB.out.2
        · have h5 := own_bas Hfo9.out k hk; have := HgsB.out; omega
  case stop =>
    rintro D c pre W _ _ h _
    exact h.elim
end

/-- Saved, as a plain call. -/
theorem pSaved (vb : Value) (b : List UInt8) (w : World) (hb : Byt w vb b) (nm : Nm) (ss : List Sec) (rest : List UInt8) (hbs : b = recP nm ss ++ rest) (hnm : nameOK nm = true) (hss : ss.length ≤ 4096) (h64 : ∀ p ∈ ss, p.length = 64) (hbl : b.length ≤ 1000000000) :
    Calls Tryz.prog 96 #[vb] w fun e w' => ∃ fb vn vs, e = .returned (.tuple #[sv nm, pv fb, nv (recP nm ss).length]) ∧ Grows w w' ∧ NewFi w.heap.size w' fb vn vs ss :=
  (callsIn_wide (n := 5)).1 (saved_in 5 (by omega) vb b w hb nm ss rest hbs hnm hss h64 hbl)
end Go.Proofs.YtoppcpiheaedlaaGreatDoor
