/-
  The program's disk: a file that grows.
-/
import Derived.Test.YtoppcpiheaedlaaGreatDoorPk
namespace Go.Proofs.YtoppcpiheaedlaaGreatDoor
open Go.RowKit Go.Maps Go.MapKept
set_option linter.unusedVariables false
set_option linter.unusedSimpArgs false
attribute [local go_sem] sv nv mv pv

theorem infoSec : (Tryz.prog.info? 106).map (fun i => (i.zero, i.size, i.bytes)) = some (some (.agg (Array.replicate 64 (.int .u8 0))), 64, 64) := by kernel_rfl
theorem infoSec_parts : ∃ i z, Tryz.prog.info? 106 = some i ∧ i.zero = some z ∧ i.size = 64 ∧ i.bytes = 64 ∧ z.cells = Array.replicate 64 (.int .u8 0) := by
  obtain ⟨i, h1, h2⟩ := Option.map_eq_some_iff.1 infoSec
  simp only [Prod.mk.injEq] at h2
  exact ⟨i, _, h1, h2.1, h2.2.1, h2.2.2, rfl⟩
theorem zeros_flat (m : Nat) : (Builtin.zeroCells (Array.replicate 64 (.int .u8 0)) m).toList = (List.replicate m zero64).flatMap secC := by
  have e1 : (List.replicate m zero64).flatMap secC = List.replicate (m * 64) (bv 0) := by
    induction m with
    | zero => rfl
    | succ m ih =>
      rw [List.replicate_succ, List.flatMap_cons, ih]
      show (zero64.map bv) ++ _ = _
      unfold zero64
      rw [List.map_replicate, List.replicate_append_replicate]
      congr 1
      omega
  rw [e1]
  unfold Builtin.zeroCells
  apply List.ext_getElem
  · simp
  · intro i h1 h2
    simp
    have : i % 64 < 64 := Nat.mod_lt _ (by omega)
    simp [getElem!_def, this, bv]
theorem secC_len {l : List Sec} (h : ∀ p ∈ l, p.length = 64) : (l.flatMap secC).length = l.length * 64 := by
  induction l with
  | nil => rfl
  | cons p l ih =>
    rw [List.flatMap_cons, List.length_append, ih (fun q hq => h q (by simp [hq]))]
    have := h p (by simp)
    simp only [secC, List.length_map, List.length_cons, this]
    omega
theorem setCell_own {W : World} {b : Nat} {cs : Array Value} {T : TypeId} (hb : W.heap[b]? = some (.cells cs T (0, 0))) (i : Nat) (u : Value) {B e k n : Nat} {v : Value} {xs : List Value} (h : W.ownsRow B e k v n xs) (hne : T ≠ e) : (W.setCell ⟨b, i, none⟩ u).ownsRow B e k v n xs :=
  own_but h (But.setCell (But.refl' (fun k => k = b) _) _ _ rfl) fun j hj hn => own_ne h hb hne (by rw [hj, hn])
theorem grown_own {W W' : World} {r : Option Nat} (hg : W.grownBy W' r) {B e k n : Nat} {v : Value} {xs : List Value} (h : W.ownsRow B e k v n xs) (hne : ∀ j, v.ownBlock = some j → r ≠ some j) : W'.ownsRow B e k v n xs :=
  own_own h fun j hj => hg.block j (own_lt h j hj) (fun e => hne j hj e.symm)

/-- Both rows have grown. -/
theorem FiOk.grown {W2 W3 W5 : World} {f : Fi} (h : FiOk W2 f) (m : Nat) (v6 v7 : Value) (hm : f.now.length + m ≤ 4096)
    (ho3 : W3.ownsRow 0 106 64 v6 (f.now.length + m) (f.now.flatMap secC ++ (List.replicate m zero64).flatMap secC)) (hg3 : W2.grownBy W3 f.vn.ownBlock) (ha3 : v6.ownBlock = f.vn.ownBlock ∨ v6.ownBlock = some W2.heap.size)
    (ho5 : W5.ownsRow 0 106 64 v7 (f.now.length + m) (f.safe.flatMap secC ++ (List.replicate m zero64).flatMap secC)) (hg5 : (W3.setCell ⟨f.blk, 0, none⟩ v6).grownBy W5 f.vs.ownBlock) (ha5 : v7.ownBlock = f.vs.ownBlock ∨ v7.ownBlock = some (W3.setCell ⟨f.blk, 0, none⟩ v6).heap.size) :
    FiOk (W5.setCell ⟨f.blk, 1, none⟩ v7) ⟨f.num, f.blk, v6, v7, f.now ++ List.replicate m zero64, f.safe ++ List.replicate m zero64⟩ ∧ But (fun k => k = f.blk ∨ FiRows f k) W2 (W5.setCell ⟨f.blk, 1, none⟩ v7) ∧
      ∀ k, FiRows ⟨f.num, f.blk, v6, v7, f.now ++ List.replicate m zero64, f.safe ++ List.replicate m zero64⟩ k → FiRows f k ∨ W2.heap.size ≤ k := by
  have hbn : f.vn.ownBlock ≠ some f.blk := own_ne h.now h.row (by decide)
  have hbs : f.vs.ownBlock ≠ some f.blk := own_ne h.safe h.row (by decide)
  have r3 : W3.heap[f.blk]? = some (.cells #[f.vn, f.vs] 113 (0, 0)) := (hg3.block _ (Array.getElem?_eq_some_iff.1 h.row).1 (fun e => hbn e.symm)).trans h.row
  have r4 := row_setCell r3 0 v6
  have r5 : W5.heap[f.blk]? = some (.cells #[v6, f.vs] 113 (0, 0)) := (hg5.block _ (Array.getElem?_eq_some_iff.1 r4).1 (fun e => hbs e.symm)).trans r4
  have r6 := row_setCell r5 1 v7
  have hs4 : (W3.setCell ⟨f.blk, 0, none⟩ v6).heap.size = W3.heap.size := by simp [World.setCell]
  have hsn : ∀ j, v6.ownBlock = some j → f.vs.ownBlock ≠ some j := fun j hj hs => by
    rcases ha3 with h' | h'
    · exact h.apart j (h'.symm.trans hj) hs
    · have := own_lt h.safe j hs
      rw [h'] at hj
      have := Option.some.inj hj
      omega
  have o4 := setCell_own r3 0 v6 ho3 (by decide)
  have o5 := grown_own hg5 o4 hsn
  have o6 := setCell_own r5 1 v7 o5 (by decide)
  have s6 := setCell_own r5 1 v7 ho5 (by decide)
  refine ⟨⟨r6, ?_, ?_, ?_, ?_, ?_, ?_, ?_⟩, ?_, ?_⟩
  · show World.ownsRow _ _ _ _ v6 (f.now ++ List.replicate m zero64).length ((f.now ++ List.replicate m zero64).flatMap secC)
    rw [List.length_append, List.length_replicate, List.flatMap_append]
    exact o6
  · show World.ownsRow _ _ _ _ v7 (f.safe ++ List.replicate m zero64).length ((f.safe ++ List.replicate m zero64).flatMap secC)
    rw [List.length_append, List.length_replicate, List.flatMap_append, h.len]
    exact s6
  · show (f.safe ++ _).length = (f.now ++ _).length
    rw [List.length_append, List.length_append, h.len]
  · intro p hp
    rcases List.mem_append.1 hp with hp | hp
    · exact h.now64 p hp
    · rw [(List.mem_replicate.1 hp).2]; simp [zero64]
  · intro p hp
    rcases List.mem_append.1 hp with hp | hp
    · exact h.safe64 p hp
    · rw [(List.mem_replicate.1 hp).2]; simp [zero64]
  · show (f.now ++ _).length ≤ _
    rw [List.length_append, List.length_replicate]
    exact hm
  · intro k hk hk'
    have hk : v6.ownBlock = some k := hk
    have hk' : v7.ownBlock = some k := hk'
    rcases ha5 with h' | h'
    · exact hsn k hk (h'.symm.trans hk')
    · have := own_lt ho3 k hk
      rw [h'] at hk'
      have := Option.some.inj hk'
      omega
  · exact But.setCell ((But.setCell (But.grown hg3 fun k hk => .inr (.inl hk)) ⟨f.blk, 0, none⟩ v6 (.inl rfl)).trans' (But.grown hg5 fun k hk => .inr (.inr hk))) _ _ (.inl rfl)
  · intro k hk
    have hsz := hg3.size
    rcases hk with hk | hk
    · rcases ha3 with h' | h'
      · exact .inl (.inl (h'.symm.trans hk))
      · right; rw [show Fi.vn _ = v6 from rfl, h'] at hk; have := Option.some.inj hk; omega
    · rcases ha5 with h' | h'
      · exact .inl (.inr (h'.symm.trans hk))
      · right; rw [show Fi.vs _ = v7 from rfl, h', hs4] at hk; have := Option.some.inj hk; omega

theorem takenP_le {w : World} {q : Nat} {x : Px} (h : PD w q x) : takenP x.s ≤ 32768 := by
  unfold takenP
  rw [nowX_s]
  have hdm := nowX_mem x h.wf.ne
  have hlen := (h.wf.names _ hdm).1
  have hall : ∀ e ∈ (nowX x).2, (fileP x.s e.2).1.length ≤ 4096 := fun e he => by
    obtain ⟨_, g, hg, hgn⟩ := (h.wf.names _ hdm).2 e he
    rw [← hgn, h.fileP hg]
    exact (h.files.ok g hg).le
  have : ∀ l : Dir, (∀ e ∈ l, (fileP x.s e.2).1.length ≤ 4096) → (l.map fun e => (fileP x.s e.2).1.length).sum ≤ 4096 * l.length := by
    intro l
    induction l with
    | nil => simp
    | cons e l ih =>
      intro ha
      have h1 := ih (fun e he => ha e (by simp [he]))
      have h2 := ha e (by simp)
      simp only [List.map_cons, List.sum_cons, List.length_cons]
      omega
  have := this _ hall
  omega

set_option maxRecDepth 100000 in
set_option maxHeartbeats 2000000 in
theorem pGrow {w : World} {q : Nat} {x : Px} (h : PD w q x) (nm : Nm) (hn : okS nm) (n : Int) (hnI : -9223372036854775808 ≤ n ∧ n ≤ 9223372036854775807) :
    Calls Tryz.prog 75 #[.pointer (some ⟨q, 0, none⟩), sv nm, .int .i64 n] w fun e w' => e = .returned (.int .i64 (growP x.s nm n).1) ∧ ∃ x', PD w' q x' ∧ x'.s = (growP x.s nm n).2 ∧ TurnP q x x' w w' := by
  have hmx : Tryz.prog.follows .mixedOrders = true := by kernel_rfl
  have HB := Lib.hid (pBeginWith h nm hn)
  unfold sv at HB ⊢
  by_cases hf : (beginP x.s).1 = 0
  · have hr : bwR x nm = findR (nowX x).2 nm := by unfold bwR; rw [if_pos hf]
    rw [hr] at HB
    cases hd : findA (nowX x).2 nm with
    | none =>
      have hr' : findR (nowX x).2 nm = .tuple #[.int .i64 0, .int .i64 7] := by unfold findR; rw [hd]
      have Hr : Hid (growP x.s nm n = (7, (beginX x).s)) := by
        show _ = _
        unfold growP
        rw [guardP_yes hf, ← beginX_s, nowX_s, show (nowX (beginX x)).2 = (nowX x).2 from rfl, hd]
      rw [hr'] at HB
      clear h hn hf hr hd hr' hnI
      go_enter Tryz.func75, Tryz.ntmps75
      go_wp2_with fail
      refine HB.out.mono ?_
      rintro e w1 ⟨rfl, hP, hT⟩
      have HP := Lib.hid hP
      have HT := Lib.hid hT
      clear hP hT
      go_wp2
      go_ret
      exact ⟨by rw [Hr.out]; rfl, beginX x, HP.out, by rw [Hr.out], HT.out⟩
    | some k =>
      have hr' : findR (nowX x).2 nm = .tuple #[.int .i64 (k : Int), .int .i64 0] := by unfold findR; rw [hd]; rfl
      obtain ⟨f, hfm, hfn⟩ := h.named (nowX_mem x h.wf.ne) hd
      have Hfi := Lib.hid hfm
      have Hfn := Lib.hid hfn
      have hfp : fileP (beginX x).s k = (f.now, f.safe) := by rw [← hfn]; exact h.fileP hfm
      have Hs : Hid (growP x.s nm n = if n < f.now.length ∨ 4096 < n then (2, (beginX x).s) else if ((beginX x).s.room : Int) < (takenP (beginX x).s : Int) + (n - f.now.length) then (42, (beginX x).s)
          else (0, { (beginX x).s with files := setFile (beginX x).s.files k (f.now ++ List.replicate (n.toNat - f.now.length) zero64, f.safe ++ List.replicate (n.toNat - f.now.length) zero64) })) := by
        show _ = _
        unfold growP
        rw [guardP_yes hf, ← beginX_s, nowX_s, show (nowX (beginX x)).2 = (nowX x).2 from rfl, hd]
        simp only [hfp]
      have Hokp : Hid (okI k) := okI_small (by rw [← hfn]; exact Nat.le_trans (h.wf.nums f hfm) h.wf.small.2.2.2)
      have Hle := Lib.hid (h.files.ok f hfm).le
      rw [hr'] at HB
      clear h hn hf hr hd hr' hfm hfn hfp
      obtain ⟨L, HL⟩ : ∃ L, Hid (f.now.length = L) := ⟨_, rfl⟩
      obtain ⟨b, Hb⟩ : ∃ b, Hid (f.blk = b) := ⟨_, rfl⟩
      rw [HL.out] at Hs Hle
      have hLI : (L : Int) ≤ 4096 := by have := Hle.out; omega
      by_cases h1 : n < L
      · have Hr : Hid (growP x.s nm n = (2, (beginX x).s)) := by show _ = _; rw [Hs.out, if_pos (.inl h1)]
        go_enter Tryz.func75, Tryz.ntmps75
        go_wp2_with fail
        refine HB.out.mono ?_
        rintro e w1 ⟨rfl, hP, hT⟩
        have HP := Lib.hid hP
        have HT := Lib.hid hT
        have hfo := hP.files.ok f Hfi.out
        have Hfo := Lib.hid hfo
        obtain ⟨a, c, a', c', e1, e2, d0, d1⟩ := fi_form hfo
        have hlk := hP.look Hfi.out
        rw [Hfn.out, Hb.out] at hlk
        have Hlk1 := Lib.hid hlk
        have HM1 := Lib.hid hP.files.map
        have Hok1 := Lib.hid hP.okF
        have c2 := hP.cell 2 (mv (beginX x).fm) rfl
        have cr := hP.cell 0 (nv (beginX x).room) rfl
        obtain ⟨fm, Hfm⟩ : ∃ y, Hid ((beginX x).fm = y) := ⟨_, rfl⟩
        rw [Hfm.out] at c2 HM1
        rw [HL.out] at e1 e2 d0 d1
        rw [Hb.out] at d0 d1
        unfold mv at c2
        unfold nv at cr
        have E1 := Lib.hid e1
        have E2 := Lib.hid e2
        clear hP hT hfo hlk e1 e2
        go_wp2_with (at_lookup; refine wpList_lookA rfl _ _ 95 109 false rfl HM1.out keyF Hok1.out Tryz.underlying95 _ (zeroFile _) k Hokp.out rfl rfl (.pointer (some ⟨b, 0, none⟩)) (by rw [Hlk1.out]; rfl) ?_)
        go_ret
        exact ⟨by rw [Hr.out]; rfl, beginX x, HP.out, by rw [Hr.out], HT.out⟩
      · by_cases h2 : 4096 < n
        · have Hr : Hid (growP x.s nm n = (2, (beginX x).s)) := by show _ = _; rw [Hs.out, if_pos (.inr h2)]
          go_enter Tryz.func75, Tryz.ntmps75
          go_wp2_with fail
          refine HB.out.mono ?_
          rintro e w1 ⟨rfl, hP, hT⟩
          have HP := Lib.hid hP
          have HT := Lib.hid hT
          have hfo := hP.files.ok f Hfi.out
          have Hfo := Lib.hid hfo
          obtain ⟨a, c, a', c', e1, e2, d0, d1⟩ := fi_form hfo
          have hlk := hP.look Hfi.out
          rw [Hfn.out, Hb.out] at hlk
          have Hlk1 := Lib.hid hlk
          have HM1 := Lib.hid hP.files.map
          have Hok1 := Lib.hid hP.okF
          have c2 := hP.cell 2 (mv (beginX x).fm) rfl
          have cr := hP.cell 0 (nv (beginX x).room) rfl
          obtain ⟨fm, Hfm⟩ : ∃ y, Hid ((beginX x).fm = y) := ⟨_, rfl⟩
          rw [Hfm.out] at c2 HM1
          rw [HL.out] at e1 e2 d0 d1
          rw [Hb.out] at d0 d1
          unfold mv at c2
          unfold nv at cr
          have E1 := Lib.hid e1
          have E2 := Lib.hid e2
          clear hP hT hfo hlk e1 e2
          go_wp2_with (at_lookup; refine wpList_lookA rfl _ _ 95 109 false rfl HM1.out keyF Hok1.out Tryz.underlying95 _ (zeroFile _) k Hokp.out rfl rfl (.pointer (some ⟨b, 0, none⟩)) (by rw [Hlk1.out]; rfl) ?_)
          go_ret
          exact ⟨by rw [Hr.out]; rfl, beginX x, HP.out, by rw [Hr.out], HT.out⟩
        · obtain ⟨m, hm⟩ : ∃ m : Nat, n - (L : Int) = (m : Int) := ⟨(n - L).toNat, by omega⟩
          have Hmn : Hid (n.toNat - L = m ∧ L + m ≤ 4096) := by constructor <;> omega
          have hmI : (m : Int) ≤ 4096 := by omega
          obtain ⟨rm, Hrm⟩ : ∃ r, Hid ((beginX x).room = r) := ⟨_, rfl⟩
          obtain ⟨tk, Htk⟩ : ∃ r, Hid (takenP (beginX x).s = r) := ⟨_, rfl⟩
          have Hs2 : Hid (growP x.s nm n = if (rm : Int) < (tk : Int) + (m : Int) then (42, (beginX x).s)
              else (0, { (beginX x).s with files := setFile (beginX x).s.files k (f.now ++ List.replicate m zero64, f.safe ++ List.replicate m zero64) })) := by
            show _ = _
            rw [Hs.out, if_neg (by omega), hm, Hmn.out.1, show (beginX x).s.room = (beginX x).room from rfl, Hrm.out, Htk.out]
          clear Hs
          by_cases h3 : (rm : Int) < (tk : Int) + (m : Int)
          · have Hr : Hid (growP x.s nm n = (42, (beginX x).s)) := by show _ = _; rw [Hs2.out, if_pos h3]
            go_enter Tryz.func75, Tryz.ntmps75
            go_wp2_with fail
            refine HB.out.mono ?_
            rintro e w1 ⟨rfl, hP, hT⟩
            have HP := Lib.hid hP
            have HT := Lib.hid hT
            have hfo := hP.files.ok f Hfi.out
            have Hfo := Lib.hid hfo
            obtain ⟨a, c, a', c', e1, e2, d0, d1⟩ := fi_form hfo
            have hlk := hP.look Hfi.out
            rw [Hfn.out, Hb.out] at hlk
            have Hlk1 := Lib.hid hlk
            have HM1 := Lib.hid hP.files.map
            have Hok1 := Lib.hid hP.okF
            have c2 := hP.cell 2 (mv (beginX x).fm) rfl
            have cr := hP.cell 0 (nv (beginX x).room) rfl
            obtain ⟨fm, Hfm⟩ : ∃ y, Hid ((beginX x).fm = y) := ⟨_, rfl⟩
            rw [Hfm.out] at c2 HM1
            rw [HL.out] at e1 e2 d0 d1
            rw [Hb.out] at d0 d1
            unfold mv at c2
            unfold nv at cr
            have E1 := Lib.hid e1
            have E2 := Lib.hid e2
            rw [Hrm.out] at cr
            have htk := takenP_le hP
            rw [Htk.out] at htk
            have htI : (tk : Int) ≤ 32768 := by omega
            have hrI : (rm : Int) ≤ 4096 := by have := hP.wf.room; rw [Hrm.out] at this; omega
            clear hP hT hfo hlk e1 e2
            go_wp2_with (at_lookup; refine wpList_lookA rfl _ _ 95 109 false rfl HM1.out keyF Hok1.out Tryz.underlying95 _ (zeroFile _) k Hokp.out rfl rfl (.pointer (some ⟨b, 0, none⟩)) (by rw [Hlk1.out]; rfl) ?_)
            refine specs_region
              #[[], [0], [], [0, 1, 2], [], [4], [4, 5], [4, 5, 6], [0, 1, 2, 3, 4, 5, 6, 7]] #[[0], [], [10], [], [0], [], [], [], []] #[true, true, true, true, true, true, true, true, true]
              ((.val ?v0) :: (.val ?v1) :: (.val ?v2) :: (.val ?v3) :: (.val ?v4) :: (.val ?v5) :: (.val ?v6) :: (.val ?v7) :: (.val ?v8) :: []).toArray
              hmx ?chk ?grd ?stp ?rst
            case chk => rfl
            case stp =>
              refine ⟨?_, ?_, ?_, ?_, ?_, ?_, ?_, ?_, ?_, trivial⟩
              · refine step_intro rfl rfl fun ρ X hc hf hgl hX hp ho => ?_
                change StepOk _ { dst := _, op := Op.move (Operand.tmp 0), type := _, pos := _, after := _, guard := _ } _ _ _
                have k0 : ρ (.tmp 0) = .pointer (some ⟨q, 0, none⟩) := ho 0 (by decide)
                clear hp ho
                refine StepOk.of_run (v := ?v0) (w' := X) ?_ ⟨rfl, Below.refl _ _⟩
                clear hX
                go_simp
                all_goals try go_bits
                all_goals try simp only [IntWalk.iteOmega]
                all_goals try go_bits
                all_goals rfl
              · refine step_intro rfl rfl fun ρ X hc hf hgl hX hp ho => ?_
                change StepOk _ { dst := _, op := Op.call { callee := Callee.value (Operand.func 98), args := #[Operand.tmp 44], argTypes := #[25] }, type := _, pos := _, after := _, guard := _ } _ _ _
                have k44 : ρ (.tmp 44) = ?v0 := hp 0 (by decide)
                clear hp ho
                refine StepOk.of_call (f := 98) (args := #[?v0]) (w' := X) ?_ (pTaken (HP.out.grows hX)) ?_
                · go_simp
                  all_goals try go_bits
                  all_goals try rfl
                · rintro e w'' ⟨rfl, hg'⟩; refine ⟨_, rfl, ?_, hg'⟩; rw [Htk.out]; show _ = ?v1; rfl
              · refine step_intro rfl rfl fun ρ X hc hf hgl hX hp ho => ?_
                change StepOk _ { dst := _, op := Op.move (Operand.tmp 10), type := _, pos := _, after := _, guard := _ } _ _ _
                have k10 : ρ (.tmp 10) = .int .i64 (m : Int) := ho 10 (by decide)
                clear hp ho
                refine StepOk.of_run (v := ?v2) (w' := X) ?_ ⟨rfl, Below.refl _ _⟩
                clear hX
                go_simp
                all_goals try go_bits
                all_goals try simp only [IntWalk.iteOmega]
                all_goals try go_bits
                all_goals rfl
              · refine step_intro rfl rfl fun ρ X hc hf hgl hX hp ho => ?_
                change StepOk _ { dst := _, op := Op.binOp BinOp.add 3 (Operand.tmp 45) (Operand.tmp 46) 3, type := _, pos := _, after := _, guard := _ } _ _ _
                have k45 : ρ (.tmp 45) = ?v1 := hp 1 (by decide)
                have k46 : ρ (.tmp 46) = ?v2 := hp 2 (by decide)
                clear hp ho
                refine StepOk.of_run (v := ?v3) (w' := X) ?_ ⟨rfl, Below.refl _ _⟩
                clear hX
                go_simp
                all_goals try go_bits
                all_goals try simp only [IntWalk.iteOmega]
                all_goals try go_bits
                all_goals rfl
              · refine step_intro rfl rfl fun ρ X hc hf hgl hX hp ho => ?_
                change StepOk _ { dst := _, op := Op.move (Operand.tmp 0), type := _, pos := _, after := _, guard := _ } _ _ _
                have k0 : ρ (.tmp 0) = .pointer (some ⟨q, 0, none⟩) := ho 0 (by decide)
                clear hp ho
                refine StepOk.of_run (v := ?v4) (w' := X) ?_ ⟨rfl, Below.refl _ _⟩
                clear hX
                go_simp
                all_goals try go_bits
                all_goals try simp only [IntWalk.iteOmega]
                all_goals try go_bits
                all_goals rfl
              · refine step_intro rfl rfl fun ρ X hc hf hgl hX hp ho => ?_
                change StepOk _ { dst := _, op := Op.nilCheck (Operand.tmp 48), type := _, pos := _, after := _, guard := _ } _ _ _
                have k48 : ρ (.tmp 48) = ?v4 := hp 4 (by decide)
                clear hp ho
                refine StepOk.of_run (v := ?v5) (w' := X) ?_ ⟨rfl, Below.refl _ _⟩
                clear hX
                go_simp
                all_goals try go_bits
                all_goals try simp only [IntWalk.iteOmega]
                all_goals try go_bits
                all_goals rfl
              · refine step_intro rfl rfl fun ρ X hc hf hgl hX hp ho => ?_
                change StepOk _ { dst := _, op := Op.fieldAddr 100 (Operand.tmp 49) 0, type := _, pos := _, after := _, guard := _ } _ _ _
                have k49 : ρ (.tmp 49) = ?v5 := hp 5 (by decide)
                clear hp ho
                refine StepOk.of_run (v := ?v6) (w' := X) ?_ ⟨rfl, Below.refl _ _⟩
                clear hX
                go_simp
                all_goals try go_bits
                all_goals try simp only [IntWalk.iteOmega]
                all_goals try go_bits
                all_goals rfl
              · refine step_intro rfl rfl fun ρ X hc hf hgl hX hp ho => ?_
                change StepOk _ { dst := _, op := Op.load 3 (Operand.tmp 50), type := _, pos := _, after := _, guard := _ } _ _ _
                have k50 : ρ (.tmp 50) = ?v6 := hp 6 (by decide)
                have crX := Grows.cell' hX cr
                clear hp ho
                refine StepOk.of_run (v := ?v7) (w' := X) ?_ ⟨rfl, Below.refl _ _⟩
                clear hX
                go_simp
                all_goals try go_bits
                all_goals try simp only [IntWalk.iteOmega]
                all_goals try go_bits
                all_goals rfl
              · refine step_intro rfl rfl fun ρ X hc hf hgl hX hp ho => ?_
                change StepOk _ { dst := _, op := Op.binOp BinOp.gtr 3 (Operand.tmp 47) (Operand.tmp 51) 3, type := _, pos := _, after := _, guard := _ } _ _ _
                have k47 : ρ (.tmp 47) = ?v3 := hp 3 (by decide)
                have k51 : ρ (.tmp 51) = ?v7 := hp 7 (by decide)
                clear hp ho
                refine StepOk.of_run (v := ?v8) (w' := X) ?_ ⟨rfl, Below.refl _ _⟩
                clear hX
                go_simp
                all_goals try go_bits
                all_goals try simp only [IntWalk.iteOmega]
                all_goals try go_bits
                all_goals rfl
            case grd => rfl
            case rst =>
              intro a0 X hb
              have hfr := hb.frame ((44, ?v0) :: (45, ?v1) :: (46, ?v2) :: (47, ?v3) :: (48, ?v4) :: (49, ?v5) :: (50, ?v6) :: (51, ?v7) :: (52, ?v8) :: []) rfl ⟨hb.done' 0 44 rfl rfl, hb.done' 1 45 rfl rfl, hb.done' 2 46 rfl rfl, hb.done' 3 47 rfl rfl, hb.done' 4 48 rfl rfl, hb.done' 5 49 rfl rfl, hb.done' 6 50 rfl rfl, hb.done' 7 51 rfl rfl, hb.done' 8 52 rfl rfl, trivial⟩
              simp only [updL, ↓reduceIte, Nat.reduceEqDiff, Nat.reduceAdd, Nat.zero_add] at hfr
              have HX := Lib.hid hb.ext
              clear hb
              subst hfr
              go_wp2
              go_ret
              exact ⟨by rw [Hr.out]; rfl, beginX x, HP.out.grows HX.out, by rw [Hr.out], HT.out.trans (TurnP.ofGrows HX.out)⟩
          · have Hr : Hid (growP x.s nm n = (0, { (beginX x).s with files := setFile (beginX x).s.files k (f.now ++ List.replicate m zero64, f.safe ++ List.replicate m zero64) })) := by show _ = _; rw [Hs2.out, if_neg h3]
            go_enter Tryz.func75, Tryz.ntmps75
            go_wp2_with fail
            refine HB.out.mono ?_
            rintro e w1 ⟨rfl, hP, hT⟩
            have HP := Lib.hid hP
            have HT := Lib.hid hT
            have hfo := hP.files.ok f Hfi.out
            have Hfo := Lib.hid hfo
            obtain ⟨a, c, a', c', e1, e2, d0, d1⟩ := fi_form hfo
            have hlk := hP.look Hfi.out
            rw [Hfn.out, Hb.out] at hlk
            have Hlk1 := Lib.hid hlk
            have HM1 := Lib.hid hP.files.map
            have Hok1 := Lib.hid hP.okF
            have c2 := hP.cell 2 (mv (beginX x).fm) rfl
            have cr := hP.cell 0 (nv (beginX x).room) rfl
            obtain ⟨fm, Hfm⟩ : ∃ y, Hid ((beginX x).fm = y) := ⟨_, rfl⟩
            rw [Hfm.out] at c2 HM1
            rw [HL.out] at e1 e2 d0 d1
            rw [Hb.out] at d0 d1
            unfold mv at c2
            unfold nv at cr
            have E1 := Lib.hid e1
            have E2 := Lib.hid e2
            rw [Hrm.out] at cr
            have htk := takenP_le hP
            rw [Htk.out] at htk
            have htI : (tk : Int) ≤ 32768 := by omega
            have hrI : (rm : Int) ≤ 4096 := by have := hP.wf.room; rw [Hrm.out] at this; omega
            clear hP hT hfo hlk e1 e2
            go_wp2_with (at_lookup; refine wpList_lookA rfl _ _ 95 109 false rfl HM1.out keyF Hok1.out Tryz.underlying95 _ (zeroFile _) k Hokp.out rfl rfl (.pointer (some ⟨b, 0, none⟩)) (by rw [Hlk1.out]; rfl) ?_)
            refine specs_region
              #[[], [0], [], [0, 1, 2], [], [4], [4, 5], [4, 5, 6], [0, 1, 2, 3, 4, 5, 6, 7]] #[[0], [], [10], [], [0], [], [], [], []] #[true, true, true, true, true, true, true, true, true]
              ((.val ?vb0) :: (.val ?vb1) :: (.val ?vb2) :: (.val ?vb3) :: (.val ?vb4) :: (.val ?vb5) :: (.val ?vb6) :: (.val ?vb7) :: (.val ?vb8) :: []).toArray
              hmx ?chkb ?grdb ?stpb ?rstb
            case chkb => rfl
            case stpb =>
              refine ⟨?_, ?_, ?_, ?_, ?_, ?_, ?_, ?_, ?_, trivial⟩
              · refine step_intro rfl rfl fun ρ X hc hf hgl hX hp ho => ?_
                change StepOk _ { dst := _, op := Op.move (Operand.tmp 0), type := _, pos := _, after := _, guard := _ } _ _ _
                have k0 : ρ (.tmp 0) = .pointer (some ⟨q, 0, none⟩) := ho 0 (by decide)
                clear hp ho
                refine StepOk.of_run (v := ?vb0) (w' := X) ?_ ⟨rfl, Below.refl _ _⟩
                clear hX
                go_simp
                all_goals try go_bits
                all_goals try simp only [IntWalk.iteOmega]
                all_goals try go_bits
                all_goals rfl
              · refine step_intro rfl rfl fun ρ X hc hf hgl hX hp ho => ?_
                change StepOk _ { dst := _, op := Op.call { callee := Callee.value (Operand.func 98), args := #[Operand.tmp 44], argTypes := #[25] }, type := _, pos := _, after := _, guard := _ } _ _ _
                have k44 : ρ (.tmp 44) = ?vb0 := hp 0 (by decide)
                clear hp ho
                refine StepOk.of_call (f := 98) (args := #[?vb0]) (w' := X) ?_ (pTaken (HP.out.grows hX)) ?_
                · go_simp
                  all_goals try go_bits
                  all_goals try rfl
                · rintro e w'' ⟨rfl, hg'⟩; refine ⟨_, rfl, ?_, hg'⟩; rw [Htk.out]; show _ = ?vb1; rfl
              · refine step_intro rfl rfl fun ρ X hc hf hgl hX hp ho => ?_
                change StepOk _ { dst := _, op := Op.move (Operand.tmp 10), type := _, pos := _, after := _, guard := _ } _ _ _
                have k10 : ρ (.tmp 10) = .int .i64 (m : Int) := ho 10 (by decide)
                clear hp ho
                refine StepOk.of_run (v := ?vb2) (w' := X) ?_ ⟨rfl, Below.refl _ _⟩
                clear hX
                go_simp
                all_goals try go_bits
                all_goals try simp only [IntWalk.iteOmega]
                all_goals try go_bits
                all_goals rfl
              · refine step_intro rfl rfl fun ρ X hc hf hgl hX hp ho => ?_
                change StepOk _ { dst := _, op := Op.binOp BinOp.add 3 (Operand.tmp 45) (Operand.tmp 46) 3, type := _, pos := _, after := _, guard := _ } _ _ _
                have k45 : ρ (.tmp 45) = ?vb1 := hp 1 (by decide)
                have k46 : ρ (.tmp 46) = ?vb2 := hp 2 (by decide)
                clear hp ho
                refine StepOk.of_run (v := ?vb3) (w' := X) ?_ ⟨rfl, Below.refl _ _⟩
                clear hX
                go_simp
                all_goals try go_bits
                all_goals try simp only [IntWalk.iteOmega]
                all_goals try go_bits
                all_goals rfl
              · refine step_intro rfl rfl fun ρ X hc hf hgl hX hp ho => ?_
                change StepOk _ { dst := _, op := Op.move (Operand.tmp 0), type := _, pos := _, after := _, guard := _ } _ _ _
                have k0 : ρ (.tmp 0) = .pointer (some ⟨q, 0, none⟩) := ho 0 (by decide)
                clear hp ho
                refine StepOk.of_run (v := ?vb4) (w' := X) ?_ ⟨rfl, Below.refl _ _⟩
                clear hX
                go_simp
                all_goals try go_bits
                all_goals try simp only [IntWalk.iteOmega]
                all_goals try go_bits
                all_goals rfl
              · refine step_intro rfl rfl fun ρ X hc hf hgl hX hp ho => ?_
                change StepOk _ { dst := _, op := Op.nilCheck (Operand.tmp 48), type := _, pos := _, after := _, guard := _ } _ _ _
                have k48 : ρ (.tmp 48) = ?vb4 := hp 4 (by decide)
                clear hp ho
                refine StepOk.of_run (v := ?vb5) (w' := X) ?_ ⟨rfl, Below.refl _ _⟩
                clear hX
                go_simp
                all_goals try go_bits
                all_goals try simp only [IntWalk.iteOmega]
                all_goals try go_bits
                all_goals rfl
              · refine step_intro rfl rfl fun ρ X hc hf hgl hX hp ho => ?_
                change StepOk _ { dst := _, op := Op.fieldAddr 100 (Operand.tmp 49) 0, type := _, pos := _, after := _, guard := _ } _ _ _
                have k49 : ρ (.tmp 49) = ?vb5 := hp 5 (by decide)
                clear hp ho
                refine StepOk.of_run (v := ?vb6) (w' := X) ?_ ⟨rfl, Below.refl _ _⟩
                clear hX
                go_simp
                all_goals try go_bits
                all_goals try simp only [IntWalk.iteOmega]
                all_goals try go_bits
                all_goals rfl
              · refine step_intro rfl rfl fun ρ X hc hf hgl hX hp ho => ?_
                change StepOk _ { dst := _, op := Op.load 3 (Operand.tmp 50), type := _, pos := _, after := _, guard := _ } _ _ _
                have k50 : ρ (.tmp 50) = ?vb6 := hp 6 (by decide)
                have crX := Grows.cell' hX cr
                clear hp ho
                refine StepOk.of_run (v := ?vb7) (w' := X) ?_ ⟨rfl, Below.refl _ _⟩
                clear hX
                go_simp
                all_goals try go_bits
                all_goals try simp only [IntWalk.iteOmega]
                all_goals try go_bits
                all_goals rfl
              · refine step_intro rfl rfl fun ρ X hc hf hgl hX hp ho => ?_
                change StepOk _ { dst := _, op := Op.binOp BinOp.gtr 3 (Operand.tmp 47) (Operand.tmp 51) 3, type := _, pos := _, after := _, guard := _ } _ _ _
                have k47 : ρ (.tmp 47) = ?vb3 := hp 3 (by decide)
                have k51 : ρ (.tmp 51) = ?vb7 := hp 7 (by decide)
                clear hp ho
                refine StepOk.of_run (v := ?vb8) (w' := X) ?_ ⟨rfl, Below.refl _ _⟩
                clear hX
                go_simp
                all_goals try go_bits
                all_goals try simp only [IntWalk.iteOmega]
                all_goals try go_bits
                all_goals rfl
            case grdb => rfl
            case rstb =>
              intro a0 X hb
              have hfr := hb.frame ((44, ?vb0) :: (45, ?vb1) :: (46, ?vb2) :: (47, ?vb3) :: (48, ?vb4) :: (49, ?vb5) :: (50, ?vb6) :: (51, ?vb7) :: (52, ?vb8) :: []) rfl ⟨hb.done' 0 44 rfl rfl, hb.done' 1 45 rfl rfl, hb.done' 2 46 rfl rfl, hb.done' 3 47 rfl rfl, hb.done' 4 48 rfl rfl, hb.done' 5 49 rfl rfl, hb.done' 6 50 rfl rfl, hb.done' 7 51 rfl rfl, hb.done' 8 52 rfl rfl, trivial⟩
              simp only [updL, ↓reduceIte, Nat.reduceEqDiff, Nat.reduceAdd, Nat.zero_add] at hfr
              have HX := Lib.hid hb.ext
              clear hb
              subst hfr
              have HfX : Hid (FiOk X f) := Hfo.out.kept (HX.out.block _ (Array.getElem?_eq_some_iff.1 Hfo.out.row).1) fun j hj => HX.out.block _ (kind_lt (Hfo.out.kind hj))
              have g0 := HX.out.cell' d0
              have g1 := HX.out.cell' d1
              obtain ⟨i0, z0, hi, hz, hs2, hb2, hzc⟩ := infoSec_parts
              obtain ⟨Z, HZ⟩ : ∃ Z, Hid ((List.replicate m zero64).flatMap secC = Z) := ⟨_, rfl⟩
              have hown := HfX.out.now
              have hsafe := HfX.out.safe
              rw [HfX.out.len] at hsafe
              rw [E1.out, HL.out] at hown
              rw [E2.out, HL.out] at hsafe
              have HOwn := Lib.hid hown
              have HSafe := Lib.hid hsafe
              have hfb : ¬ ((Value.slice a L c).ownBlock = some b) := by rw [← E1.out, ← Hb.out]; exact own_ne HfX.out.now HfX.out.row (by decide)
              have Hfb := Lib.hid hfb
              clear hown hsafe hfb d0 d1
              go_wp2_with (at_builtin; refine wpList_append_zeros rfl _ _ 110 3 106 rfl i0 z0 64 64 .i64 .i64 Tryz.underlying110 Tryz.underlying3 hi hz hs2 hb2 (by rw [hzc]; simp) (by omega) (by rw [hzc]; intro u hu; simp at hu; rw [hu]; rfl) _ L _ rfl HOwn.out m rfl ?q1 ?q2 Z (by rw [hzc, zeros_flat]; exact HZ.out) ?_)
              case q1 => have := Hmn.out.2; unfold maxLen; omega
              case q2 => have := Hmn.out.2; omega
              intro v3 w3 ho3 hg3 ha3
              obtain ⟨a3, c3, rfl⟩ := own_form ho3
              have HO3 := Lib.hid ho3
              have HG3 := Lib.hid hg3
              have HA3 := Lib.hid ha3
              have r3 : w3.heap[b]? = some (.cells #[f.vn, f.vs] 113 (0, 0)) := by
                have hr := HfX.out.row
                rw [Hb.out] at hr
                exact (hg3.block _ (Array.getElem?_eq_some_iff.1 hr).1 (fun e => Hfb.out e.symm)).trans hr
              have R3 := Lib.hid r3
              have k0 : w3.cell? ⟨b, 0, none⟩ = some f.vn := by rw [cell_of_row w3 b 0 _ _ _ r3]; rfl
              have u0 : w3.frozen? ⟨b, 0, none⟩ = false := frozen_of_row w3 b 0 _ _ r3
              rw [E1.out] at k0
              have r4 := row_setCell r3 0 (.slice a3 (L + m) c3)
              have k1 : (w3.setCell ⟨b, 0, none⟩ (.slice a3 (L + m) c3)).cell? ⟨b, 1, none⟩ = some f.vs := by rw [cell_of_row _ b 1 _ _ _ r4]; rfl
              rw [E2.out] at k1
              have hsafe4 : (w3.setCell ⟨b, 0, none⟩ (.slice a3 (L + m) c3)).ownsRow 0 106 64 (.slice a' L c') L (f.safe.flatMap secC) := setCell_own r3 0 _ (grown_own hg3 HSafe.out (fun j hj => by rw [← E2.out] at hj; rw [← E1.out]; exact fun e => HfX.out.apart j e hj)) (by decide)
              have HS4 := Lib.hid hsafe4
              have Hfb4 : Hid (¬ ((Value.slice a' L c').ownBlock = some b)) := by rw [← E2.out, ← Hb.out]; exact own_ne HfX.out.safe HfX.out.row (by decide)
              have R4 := Lib.hid r4
              clear ho3 hg3 ha3 r3 r4 hsafe4
              go_wp2_with (at_builtin; refine wpList_append_zeros rfl _ _ 110 3 106 rfl i0 z0 64 64 .i64 .i64 Tryz.underlying110 Tryz.underlying3 hi hz hs2 hb2 (by rw [hzc]; simp) (by omega) (by rw [hzc]; intro u hu; simp at hu; rw [hu]; rfl) _ L _ rfl HS4.out m rfl ?q1 ?q2 Z (by rw [hzc, zeros_flat]; exact HZ.out) ?_)
              case q1 => have := Hmn.out.2; unfold maxLen; omega
              case q2 => have := Hmn.out.2; omega
              intro v5 w5 ho5 hg5 ha5
              obtain ⟨a5, c5, rfl⟩ := own_form ho5
              have r5 : w5.heap[b]? = some (.cells (#[f.vn, f.vs].setIfInBounds 0 (.slice a3 (L + m) c3)) 113 (0, 0)) := (hg5.block _ (Array.getElem?_eq_some_iff.1 R4.out).1 (fun e => Hfb4.out e.symm)).trans R4.out
              have k5 : w5.cell? ⟨b, 1, none⟩ = some f.vs := by rw [cell_of_row w5 b 1 _ _ _ r5]; rfl
              rw [E2.out] at k5
              have u5 : w5.frozen? ⟨b, 1, none⟩ = false := frozen_of_row w5 b 1 _ _ r5
              have hgrown := HfX.out.grown m (.slice a3 (L + m) c3) (.slice a5 (L + m) c5) (by rw [HL.out]; exact Hmn.out.2) (W3 := w3) (W5 := w5) (by rw [HL.out, HZ.out]; exact HO3.out) (by rw [E1.out]; exact HG3.out) (by rw [E1.out]; exact HA3.out) (by rw [HL.out, HZ.out]; exact ho5) (by rw [Hb.out, E2.out]; exact hg5) (by rw [Hb.out, E2.out, show (w3.setCell ⟨b, 0, none⟩ (.slice a3 (L + m) c3)).heap.size = w3.heap.size by simp [World.setCell]]; exact ha5)
              have hset := (HP.out.grows HX.out).setF f ⟨f.num, f.blk, .slice a3 (L + m) c3, .slice a5 (L + m) c5, f.now ++ List.replicate m zero64, f.safe ++ List.replicate m zero64⟩ Hfi.out rfl rfl hgrown.2.1 (fun j hj => hj.elim .inl (fun h' => .inr (.inl h'))) hgrown.1 hgrown.2.2 (by simp)
              rw [Hb.out] at hset
              have HSet := Lib.hid hset
              clear ho5 hg5 ha5 r5 hgrown hset
              go_wp2
              go_ret
              refine ⟨by rw [Hr.out]; rfl, _, HSet.out.1, ?_, (HT.out.trans (TurnP.ofGrows HX.out)).trans HSet.out.2⟩
              rw [Hr.out, setF_s, ← Hfn.out]
  · have Hr : Hid (growP x.s nm n = beginP x.s) := guardP_no hf
    have hr : bwR x nm = .tuple #[.int .i64 0, .int .i64 (beginP x.s).1] := by unfold bwR; rw [if_neg hf]
    rw [hr] at HB
    obtain ⟨fc, Hfc⟩ : ∃ y, Hid ((beginP x.s).1 = y) := ⟨_, rfl⟩
    rw [Hfc.out] at HB hf
    have hne : (fc == 0) = false := by simpa using hf
    clear h hn hf hr hnI
    go_enter Tryz.func75, Tryz.ntmps75
    go_wp2_with fail
    refine HB.out.mono ?_
    rintro e w1 ⟨rfl, hP, hT⟩
    have HP := Lib.hid hP
    have HT := Lib.hid hT
    clear hP hT
    go_wp2
    go_ret
    exact ⟨by rw [Hr.out, Hfc.out]; rfl, beginX x, HP.out, by rw [Hr.out, beginX_s], HT.out⟩
end Go.Proofs.YtoppcpiheaedlaaGreatDoor
