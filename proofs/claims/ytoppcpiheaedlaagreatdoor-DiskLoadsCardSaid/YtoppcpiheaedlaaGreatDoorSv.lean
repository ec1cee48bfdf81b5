/-
  The program's disk, saved.
-/
import Derived.Test.YtoppcpiheaedlaaGreatDoorSo
import Derived.Test.YtoppcpiheaedlaaGreatDoorPv
import Derived.Test.YtoppcpiheaedlaaGreatDoorMVint
import Derived.Laws.IdiomStrings
namespace Go.Proofs.YtoppcpiheaedlaaGreatDoor
open Go.RowKit Go.Maps Go.MapKept
set_option linter.unusedVariables false
set_option linter.unusedSimpArgs false
attribute [local go_sem] sv nv mv pv

/-! What is safe, as bytes. -/
def secsP (s : Ps) (D : Dir) (nm : Nm) : List Sec := (fileP s ((findA D nm).getD 0)).2
def recP (nm : Nm) (ss : List Sec) : List UInt8 := putB nm ++ put ss.length ++ ss.flatten
def safeP (s : Ps) : Dir := s.dirs.headD []
def saveP (s : Ps) : List UInt8 := (sortN ((safeP s).map (·.1))).flatMap fun nm => recP nm (secsP s (safeP s) nm)

theorem run_s2b {P : Program} (w : World) (S T e : TypeId) (l : List UInt8) (hl : l.length ≤ 1000000) (hs : P.underlying S = some .string) (hT : P.underlying T = some (.slice e)) (he : P.underlying e = some (.int .u8)) :
    ∃ g c W', (convert S T (sv l)).run P w = .ok (.slice (some ⟨g, 0, none⟩) l.length c) W' ∧ Byt W' (.slice (some ⟨g, 0, none⟩) l.length c) l ∧ Grows w W' := by
  have h := run_bytes_of_string (P := P) w S T e ⟨l.toArray⟩ hs hT he
  have hsz : (⟨l.toArray⟩ : ByteArray).size = l.length := by show l.toArray.size = _; simp
  rw [hsz] at h
  refine ⟨_, _, _, h, ⟨_, _, rfl, grownCap_ge _ _ _ _, grownCap_le_maxLen _ _ _ _ (by unfold maxLen; omega), (by intro e; cases e), ?_⟩, Below.alloc (Grows.drew' w) (Nat.le_refl _) _⟩
  right
  refine ⟨_, _, rfl, fun i hi => ?_⟩
  refine (cell_of_row _ w.drew.heap.size _ _ _ _ (heap_alloc_new w.drew _)).trans ?_
  unfold bytesRow
  rw [Array.getElem?_append_left (by simp; exact hi)]
  simp [bv, hi]
theorem wpList_s2b {P : Program} {W : World} {ops : Array Oper} {rest : List Oper} {o : Oper} {a : Act} {Q : Exit → Act → World → Prop} (hgd : o.guard = none) (x : Operand) (S T e : TypeId)
    (ho : o.op = .convert S T x) (hs : P.underlying S = some .string) (hT : P.underlying T = some (.slice e)) (he : P.underlying e = some (.int .u8))
    (l : List UInt8) (hl : l.length ≤ 1000000) (hx : a.eval x = sv l)
    (hK : ∀ g c W', Byt W' (.slice (some ⟨g, 0, none⟩) l.length c) l → Grows W W' → wpList P ops Q rest (a.put o.dst (.slice (some ⟨g, 0, none⟩) l.length c)) W') : wpList P ops Q (o :: rest) a W := by
  refine wpList_plain hgd fun K hK' => ?_
  obtain ⟨g, c, W', hr, hb, hg⟩ := run_s2b (P := P) W S T e l hl hs hT he
  unfold Oper.wp execOp
  simp only [ho, hx, Sem.run_bind, Sem.run_pure, hr, Result.andThen_ok, Oper.upon]
  exact hK' _ _ (hK g c W' hb hg)

theorem svPutLen (n : Nat) : (put n).length ≤ 10 := (putL_length 9 n).2
theorem svFlat64 {ss : List Sec} (h : ∀ p ∈ ss, p.length = 64) : ss.flatten.length = 64 * ss.length := by
  induction ss with
  | nil => rfl
  | cons a l ih =>
    have := ih fun p hp => h p (by simp [hp])
    have := h a (by simp)
    simp only [List.flatten_cons, List.length_append, List.length_cons]
    omega
theorem rec_len {nm : Nm} {ss : List Sec} (hn : nm.length ≤ 16) (hs : ss.length ≤ 4096) (h : ∀ p ∈ ss, p.length = 64) : (recP nm ss).length ≤ 262200 := by
  unfold recP putB
  have := svPutLen nm.length
  have := svPutLen ss.length
  have := svFlat64 h
  simp only [List.length_append]
  omega
theorem flatMap_take_succ {α β : Type} (F : α → List β) (l : List α) (k : Nat) (hk : k < l.length) : (l.take (k + 1)).flatMap F = (l.take k).flatMap F ++ F (l[k]) := by
  rw [List.take_succ_eq_append_getElem hk, List.flatMap_append]
  simp
theorem flatMap_len {α β : Type} (F : α → List β) (N : Nat) : ∀ (l : List α), (∀ x ∈ l, (F x).length ≤ N) → (l.flatMap F).length ≤ N * l.length
  | [], _ => by simp
  | a :: l, h => by
    have := flatMap_len F N l fun x hx => h x (by simp [hx])
    have := h a (by simp)
    rw [List.flatMap_cons, List.length_append, List.length_cons, Nat.mul_add]
    omega
theorem nameOK_len {s : Nm} (h : nameOK s = true) : s.length ≤ 16 ∧ 1 ≤ s.length := by
  unfold nameOK at h
  simp at h
  omega
theorem Below.to {B : Nat} {a b c : World} (h : Below B a b) (k : Grows b c) (hB : B ≤ b.heap.size) : Below B a c := h.trans (k.mono hB)
theorem secZero : ((Tryz.prog.info? 106).bind (fun i => i.zero)).map (fun z => z.cells) = some (Array.replicate 64 (.int .u8 0)) := by kernel_rfl
theorem wpList_allocS {w : World} {ops : Array Oper} {rest : List Oper} {o : Oper} {a : Act} {Q : Exit → Act → World → Prop} (hgd : o.guard = none) (ho : o.op = .alloc 106)
    (h : ∀ nb w', w'.heap[nb]? = some (.cells (Array.replicate 64 (.int .u8 0)) 106 (0, 0)) → Grows w w' → w.heap.size ≤ nb → wpList Tryz.prog ops Q rest (a.put o.dst (.pointer (some ⟨nb, 0, none⟩))) w') : wpList Tryz.prog ops Q (o :: rest) a w :=
  wpList_allocT hgd 106 ho _ secZero (h _ _ (heap_alloc_new _ _) (Grows.alloc' _ _) (Nat.le_refl _))
theorem wpList_storeS {w : World} {ops : Array Oper} {rest : List Oper} {o : Oper} {a : Act} {Q : Exit → Act → World → Prop} (hgd : o.guard = none) (x y : Operand) (ho : o.op = .store 106 x y) (nb : Nat) (p : Sec) (C : Array Value) (hC : C = (secC p).toArray) (hp : p.length = 64)
    (hx : a.eval x = .pointer (some ⟨nb, 0, none⟩)) (hy : a.eval y = .agg C) (hb : w.heap[nb]? = some (.cells (Array.replicate 64 (.int .u8 0)) 106 (0, 0)))
    (h : ∀ w', Byt w' (.slice (some ⟨nb, 0, none⟩) 64 64) p → But (fun k => k = nb) w w' → wpList Tryz.prog ops Q rest (a.put o.dst undef) w') : wpList Tryz.prog ops Q (o :: rest) a w := by
  subst hC
  have hsz : (secC p).toArray.size = 64 := by simp [secC, hp]
  refine wpList_storeT hgd 106 x y ho nb 106 _ _ hx hy hb (by rw [sizeSec, hsz]) (by rw [hsz]; simp) (all_oneCell_toArray (secC_one p)) (h _ ?_ (But.setRow (But.refl' _ _) _ _ rfl))
  refine ⟨_, _, by rw [hp], by omega, by unfold maxLen; omega, fun e => (by cases e), .inr ⟨_, _, rfl, fun i hi => ?_⟩⟩
  refine (cell_of_row _ nb _ _ _ _ (setRow_heap _ _ _ _ _ _ hb)).trans ?_
  rw [Nat.zero_add]
  simp [secC, bv, hi]
set_option maxRecDepth 100000 in
set_option maxHeartbeats 4000000 in
theorem pSave {w : World} {q : Nat} {x : Px} (h : PD w q x) :
    Calls Tryz.prog 18 #[.pointer (some ⟨q, 0, none⟩)] w fun e w' => ∃ v, e = .returned v ∧ Own 5 w.heap.size w' v (saveP x.s) ∧ Grows w w' := by
  have hmx : Tryz.prog.follows .mixedOrders = true := by kernel_rfl
  obtain ⟨i0, hi, hz0, hz1, hz2⟩ := info_parts info5
  have hpos : 0 < x.dirs.length := List.length_pos_iff.2 h.wf.ne
  obtain ⟨d0, dr, hd0⟩ : ∃ d0 dr, x.dirs = d0 :: dr := by
    cases hd : x.dirs with
    | nil => exact absurd hd h.wf.ne
    | cons a l => exact ⟨a, l, rfl⟩
  have hdm : d0 ∈ x.dirs := by rw [hd0]; simp
  obtain ⟨g, cap, e1⟩ := own_some h.dirs.row hpos
  have c1 := h.cell 1 x.vd rfl
  have hrow := h.dirs.row
  rw [e1] at c1 hrow
  have ci := own_cell hrow 0 (mv d0.1) (by rw [hd0]; rfl)
  have hsafe : safeP x.s = d0.2 := by unfold safeP Px.s; rw [hd0]; rfl
  have HM := Lib.hid (h.dirs.map _ hdm)
  have Hokd : Hid (∀ p ∈ d0.2, okS p.1) := h.okD hdm
  have Hnm : Hid (d0.2.length ≤ 8 ∧ ∀ e ∈ d0.2, nameOK e.1 = true ∧ ∃ f ∈ x.fs, f.num = e.2) := h.wf.names _ hdm
  have c2 := h.cell 2 (mv x.fm) rfl
  have Hok1 := Lib.hid h.okF
  have HM1 := Lib.hid h.files.map
  have Hsm := Lib.hid (show ∀ f ∈ x.fs, f.num ≤ 1000000 from fun f hf => Nat.le_trans (h.wf.nums f hf) h.wf.small.2.2.2)
  have H := Lib.hid h
  obtain ⟨L, HL⟩ : ∃ L, Hid (x.dirs.length = L) := ⟨_, rfl⟩
  rw [HL.out] at c1 hpos
  have hLI : (0 : Int) < (L : Int) := by omega
  obtain ⟨db, dl⟩ := d0
  dsimp only at *
  obtain ⟨fm, Hfmb⟩ : ∃ b, Hid (x.fm = b) := ⟨_, rfl⟩
  rw [Hfmb.out] at c2 HM1
  unfold mv at ci c2
  have Hs : Hid (saveP x.s = (sortN (dl.map (·.1))).flatMap fun nm => recP nm (secsP x.s dl nm)) := by show _ = _; unfold saveP; rw [hsafe]
  rw [Hs.out]
  have hmem : ∀ nm ∈ sortN (dl.map (·.1)), ∃ n f, findA dl nm = some n ∧ f ∈ x.fs ∧ f.num = n ∧ secsP x.s dl nm = f.safe ∧ nm.length ≤ 16 := by
    intro nm hnm
    have h1 : nm ∈ dl.map (·.1) := (List.mergeSort_perm _ _).mem_iff.1 hnm
    obtain ⟨e, he, rfl⟩ := List.mem_map.1 h1
    obtain ⟨h2, f, hf, h3⟩ := Hnm.out.2 e he
    have h4 := findA_of_mem (l := dl) HM.out.nodup he
    refine ⟨e.2, f, h4, hf, h3, ?_, (nameOK_len h2).1⟩
    unfold secsP
    rw [h4]
    show (Go.Proofs.YtoppcpiheaedlaaGreatDoor.fileP x.s e.2).2 = f.safe
    rw [← h3, h.fileP hf]
  have Hmem := Lib.hid hmem
  obtain ⟨l, Hl⟩ : ∃ l, Hid (dl.length = l) := ⟨_, rfl⟩
  have Hl8 : Hid (l ≤ 8) := by show _ ≤ _; rw [← Hl.out]; exact Hnm.out.1
  have hnl : (sortN (dl.map (·.1))).length = l := by unfold sortN; rw [List.length_mergeSort, List.length_map, Hl.out]
  obtain ⟨ns, Hns⟩ : ∃ ns, Hid (sortN (dl.map (·.1)) = ns) := ⟨_, rfl⟩
  rw [Hns.out] at hnl Hmem
  have Hnl := Lib.hid hnl
  have HF : Hid (∀ nm ∈ ns, (recP nm (secsP x.s dl nm)).length ≤ 262200) := by
    intro nm hnm
    obtain ⟨n, f, _, hf, _, hs, h16⟩ := Hmem.out nm hnm
    have hfo := h.files.ok f hf
    rw [hs]
    exact rec_len h16 (by have := hfo.len; have := hfo.le; omega) hfo.safe64
  have HS := Lib.hid (fun w0 w h hw => pSorted db dl w w0 h Hokd.out (by have := Hnm.out.1; omega) hw)
  have HcM := Lib.hid c2
  rw [Hns.out]
  clear hd0 hdm hrow hsafe hmem hnl hpos e1 h
  go_enter Tryz.func18, Tryz.ntmps18
  go_wp2_with fail
  refine (pKeys db _).mono ?_
  rintro e w1 ⟨rfl, hw1⟩
  have HS1 := Lib.hid (HS.out w w1 HM.out hw1)
  unfold keysV at HS1 ⊢
  have HG1 : Hid (Grows w w1) := by show Grows _ _; rw [hw1]; exact Grows.alloc' _ _
  clear HS hw1
  go_wp2_with fail
  refine HS1.out.mono ?_
  rintro e w2 ⟨v, rfl, hro, hG⟩
  obtain ⟨ar, cr, rfl⟩ := own_form hro
  have HG2 : Hid (Grows w w2) := Grows.trans' HG1.out hG
  rw [Hl.out, Hns.out] at hro
  have HR := Lib.hid hro
  clear hro hG HS1
  rw [Hl.out]
  have hc2X := HG2.out.cell' c2
  go_wp2
  go_loopw [3, 22] (fun t3 t22 wr => ∃ (k : Nat) (u : Value), t3 = u ∧ t22 = .int .i64 k ∧ k ≤ l ∧ Hid (Own 5 w.heap.size wr u ((ns.take k).flatMap fun nm => recP nm (secsP x.s dl nm))) ∧ Hid (Grows w wr) ∧ Hid (wr.ownsRow 0 9 1 (.slice ar l cr) l (ns.map sv)))
    (fun _ t22 _ => l - (intOf t22).toNat)
  case atStart => exact ⟨0, _, rfl, rfl, by omega, ⟨by simp, .inl ⟨rfl, rfl⟩⟩, HG2.out, ownsRow_base_a HR.out (by omega)⟩
  case round =>
    obtain ⟨k, u, rfl, rfl, hkl, Ho, Hg, Hr⟩ := hrel
    by_cases hlt : (k : Int) < (l : Int)
    · have hkn : k < ns.length := by rw [Hnl.out]; omega
      obtain ⟨nm, Hnmk⟩ : ∃ nm, Hid (ns[k]'hkn = nm) := ⟨_, Lib.hid rfl⟩
      obtain ⟨n, f, h1, hf, h3, hsec, h16⟩ := Hmem.out (ns[k]) (List.getElem_mem hkn)
      rw [Hnmk.out] at h1 hsec h16
      obtain ⟨g2, cap2, e2⟩ := own_some Hr.out (by omega)
      simp only [Value.slice.injEq, true_and] at e2
      obtain ⟨rfl, e2⟩ := e2
      have cn := own_cell Hr.out k (sv nm) (by rw [List.getElem?_map, List.getElem?_eq_getElem hkn, Hnmk.out]; rfl)
      have hfo := H.out.files.ok f hf
      obtain ⟨a, c, a', c', e3, e4, f0, f1⟩ := fi_form hfo
      have hlk := H.out.look hf
      have Hfo := Lib.hid hfo
      have Hsec := Lib.hid hsec
      have H16 := Lib.hid h16
      have Hrec : Hid (recP nm (secsP x.s dl nm) = (putB nm ++ put f.safe.length) ++ f.safe.flatten) := by show _ = _; rw [hsec]; rfl
      have Hstep : Hid ((ns.take (k + 1)).flatMap (fun nm => recP nm (secsP x.s dl nm)) = (ns.take k).flatMap (fun nm => recP nm (secsP x.s dl nm)) ++ recP nm (secsP x.s dl nm)) := by show _ = _; rw [flatMap_take_succ _ _ _ hkn, Hnmk.out]
      have Hblen : Hid (((ns.take k).flatMap (fun nm => recP nm (secsP x.s dl nm))).length ≤ 2097600) := by
        have h1 := flatMap_len (fun nm => recP nm (secsP x.s dl nm)) 262200 (ns.take k) fun y hy => HF.out y (List.mem_of_mem_take hy)
        have h2 := List.length_take_le k ns
        have h3 := Hl8.out
        show _ ≤ _
        omega
      have Hsl : Hid (f.safe.length = f.now.length) := hfo.len
      have Hle : Hid (f.now.length ≤ 4096) := hfo.le
      have Hfi := Lib.hid hf
      have Hlk1 : Hid (findA (x.fs.map Fi.ent) n = some f.blk) := by show _ = _; rw [← h3]; exact hlk
      have Hfd : Hid (findA dl nm = some n) := h1
      have Hokp : Hid (okI n) := okI_small (by rw [← h3]; exact Hsm.out f hf)
      have Hokn : Hid (okS nm) := by show nm.length ≤ maxLen; unfold maxLen; omega
      have HlP : Hid (∀ j, k ≤ j → True) := fun _ _ => trivial
      obtain ⟨fb, Hfb⟩ : ∃ b, Hid (f.blk = b) := ⟨_, rfl⟩
      obtain ⟨sl, Hsl2⟩ : ∃ y, Hid (f.now.length = y) := ⟨_, rfl⟩
      rw [Hfb.out] at f0 f1 Hlk1
      rw [Hsl2.out] at f0 f1 e3 e4 Hsl Hle
      have f1X := Hg.out.cell' f1
      have c2X := Hg.out.cell' HcM.out
      have HMx := Lib.hid (HM.out.grows Hg.out)
      have HM1x := Lib.hid (HM1.out.grows Hg.out)
      have Hvs := Lib.hid e4
      have hlkI : (k : Int) < (l : Int) := hlt
      have hkI : (k : Int) ≤ 8 := by have := Hl8.out; omega
      have hsI : (sl : Int) ≤ 4096 := by have := Hle.out; omega
      obtain ⟨sn, Hsn⟩ : ∃ y : ByteArray, Hid (⟨nm.toArray⟩ = y) := ⟨_, rfl⟩
      have hsvn : sv nm = .string sn := by unfold sv; rw [Hsn.out]
      rw [hsvn] at cn
      have Hsvn := Lib.hid hsvn
      have Hcv : Hid (∀ (b : Nat) (sn : Value), True) := fun _ _ => trivial
      clear h1 hf h3 hsec h16 hfo hlk e3 e4 f0 f1 hsvn hkl
      go_wp2
      refine specs_region
        #[[], [0], [0, 1], [0, 1, 2], [], [], [4, 5], [0, 1, 2, 3, 4, 5, 6], [0, 1, 2, 3, 4, 5, 6, 7], [0, 1, 2, 3, 4, 5, 6, 7, 8], [0, 1, 2, 3, 4, 5, 6, 7, 8, 9], [0, 1, 2, 3, 4, 5, 6, 7, 8, 9, 10]] #[[0], [], [], [], [4], [6], [], [], [], [], [], []] #[true, true, true, true, true, true, true, true, true, true, true, true]
        ((.val ?vs0) :: (.val ?vs1) :: (.val ?vs2) :: (.val ?vs3) :: (.val ?vs4) :: (.val ?vs5) :: (.val (nv n)) :: (.val (.pointer (some ⟨fb, 0, none⟩))) :: (.val ?vs8) :: (.val ?vs9) :: (.val ?vs10) :: (.val ?vs11) :: []).toArray
        hmx ?chks ?grds ?stps ?rsts
      case chks => rfl
      case stps =>
        refine ⟨?_, ?_, ?_, ?_, ?_, ?_, ?_, ?_, ?_, ?_, ?_, ?_, trivial⟩
        · refine step_intro rfl rfl fun ρ X hc hf hgl hX hp ho => ?_
          change StepOk _ { dst := _, op := Op.move (Operand.tmp 0), type := _, pos := _, after := _, guard := _ } _ _ _
          have k0 : ρ (.tmp 0) = .pointer (some ⟨q, 0, none⟩) := ho 0 (by decide)
          clear hp ho
          refine StepOk.of_run (v := ?vs0) (w' := X) ?_ ⟨rfl, Below.refl _ _⟩
          clear hX
          go_simp
          all_goals try go_bits
          all_goals try simp only [IntWalk.iteOmega]
          all_goals try go_bits
          all_goals rfl
        · refine step_intro rfl rfl fun ρ X hc hf hgl hX hp ho => ?_
          change StepOk _ { dst := _, op := Op.nilCheck (Operand.tmp 26), type := _, pos := _, after := _, guard := _ } _ _ _
          have k26 : ρ (.tmp 26) = ?vs0 := hp 0 (by decide)
          clear hp ho
          refine StepOk.of_run (v := ?vs1) (w' := X) ?_ ⟨rfl, Below.refl _ _⟩
          clear hX
          go_simp
          all_goals try go_bits
          all_goals try simp only [IntWalk.iteOmega]
          all_goals try go_bits
          all_goals rfl
        · refine step_intro rfl rfl fun ρ X hc hf hgl hX hp ho => ?_
          change StepOk _ { dst := _, op := Op.fieldAddr 100 (Operand.tmp 27) 2, type := _, pos := _, after := _, guard := _ } _ _ _
          have k27 : ρ (.tmp 27) = ?vs1 := hp 1 (by decide)
          clear hp ho
          refine StepOk.of_run (v := ?vs2) (w' := X) ?_ ⟨rfl, Below.refl _ _⟩
          clear hX
          go_simp
          all_goals try go_bits
          all_goals try simp only [IntWalk.iteOmega]
          all_goals try go_bits
          all_goals rfl
        · refine step_intro rfl rfl fun ρ X hc hf hgl hX hp ho => ?_
          change StepOk _ { dst := _, op := Op.load 95 (Operand.tmp 28), type := _, pos := _, after := _, guard := _ } _ _ _
          have k28 : ρ (.tmp 28) = ?vs2 := hp 2 (by decide)
          have c2XX := Grows.cell' hX c2X
          have f1XX := Grows.cell' hX f1X
          clear hp ho
          refine StepOk.of_run (v := ?vs3) (w' := X) ?_ ⟨rfl, Below.refl _ _⟩
          clear hX
          go_simp
          all_goals try go_bits
          all_goals try simp only [IntWalk.iteOmega]
          all_goals try go_bits
          all_goals rfl
        · refine step_intro rfl rfl fun ρ X hc hf hgl hX hp ho => ?_
          change StepOk _ { dst := _, op := Op.move (Operand.tmp 4), type := _, pos := _, after := _, guard := _ } _ _ _
          have k4 : ρ (.tmp 4) = .map (some db) := ho 4 (by decide)
          clear hp ho
          refine StepOk.of_run (v := ?vs4) (w' := X) ?_ ⟨rfl, Below.refl _ _⟩
          clear hX
          go_simp
          all_goals try go_bits
          all_goals try simp only [IntWalk.iteOmega]
          all_goals try go_bits
          all_goals rfl
        · refine step_intro rfl rfl fun ρ X hc hf hgl hX hp ho => ?_
          change StepOk _ { dst := _, op := Op.move (Operand.tmp 6), type := _, pos := _, after := _, guard := _ } _ _ _
          have k6 : ρ (.tmp 6) = .string sn := ho 6 (by decide)
          clear hp ho
          refine StepOk.of_run (v := ?vs5) (w' := X) ?_ ⟨rfl, Below.refl _ _⟩
          clear hX
          go_simp
          all_goals try go_bits
          all_goals try simp only [IntWalk.iteOmega]
          all_goals try go_bits
          all_goals rfl
        · refine step_intro rfl rfl fun ρ X hc hf hgl hX hp ho => ?_
          change StepOk _ { dst := _, op := Op.lookup 103 (Operand.tmp 30) (Operand.tmp 31) false, type := _, pos := _, after := _, guard := _ } _ _ _
          have k30 : ρ (.tmp 30) = ?vs4 := hp 4 (by decide)
          have k31 : ρ (.tmp 31) = ?vs5 := hp 5 (by decide)
          clear hp ho
          have hlk := (HMx.out.grows hX).look keyD Hokd.out Tryz.underlying103 (zeroInt _) false nm Hokn.out
          rw [Hfd.out] at hlk
          rw [Hsvn.out] at hlk
          try unfold nv at hlk
          simp only [Bool.false_eq_true, if_false] at hlk
          refine StepOk.of_run (v := nv n) (w' := X) ?_ ⟨rfl, Below.refl _ _⟩
          simp only [execOp, k30, k31, hlk, Sem.run_bind, Result.andThen_ok, Sem.run_pure]
          all_goals try rfl
        · refine step_intro rfl rfl fun ρ X hc hf hgl hX hp ho => ?_
          change StepOk _ { dst := _, op := Op.lookup 95 (Operand.tmp 29) (Operand.tmp 32) false, type := _, pos := _, after := _, guard := _ } _ _ _
          have k29 : ρ (.tmp 29) = ?vs3 := hp 3 (by decide)
          have k32 : ρ (.tmp 32) = (nv n) := hp 6 (by decide)
          clear hp ho
          have hlk := (HM1x.out.grows hX).look keyF Hok1.out Tryz.underlying95 (zeroFile _) false n Hokp.out
          rw [Hlk1.out] at hlk
          try unfold pv at hlk
          simp only [Bool.false_eq_true, if_false] at hlk
          refine StepOk.of_run (v := .pointer (some ⟨fb, 0, none⟩)) (w' := X) ?_ ⟨rfl, Below.refl _ _⟩
          simp only [execOp, k29, k32, hlk, Sem.run_bind, Result.andThen_ok, Sem.run_pure]
          all_goals try rfl
        · refine step_intro rfl rfl fun ρ X hc hf hgl hX hp ho => ?_
          change StepOk _ { dst := _, op := Op.nilCheck (Operand.tmp 33), type := _, pos := _, after := _, guard := _ } _ _ _
          have k33 : ρ (.tmp 33) = (.pointer (some ⟨fb, 0, none⟩)) := hp 7 (by decide)
          clear hp ho
          refine StepOk.of_run (v := ?vs8) (w' := X) ?_ ⟨rfl, Below.refl _ _⟩
          clear hX
          go_simp
          all_goals try go_bits
          all_goals try simp only [IntWalk.iteOmega]
          all_goals try go_bits
          all_goals rfl
        · refine step_intro rfl rfl fun ρ X hc hf hgl hX hp ho => ?_
          change StepOk _ { dst := _, op := Op.fieldAddr 113 (Operand.tmp 34) 1, type := _, pos := _, after := _, guard := _ } _ _ _
          have k34 : ρ (.tmp 34) = ?vs8 := hp 8 (by decide)
          clear hp ho
          refine StepOk.of_run (v := ?vs9) (w' := X) ?_ ⟨rfl, Below.refl _ _⟩
          clear hX
          go_simp
          all_goals try go_bits
          all_goals try simp only [IntWalk.iteOmega]
          all_goals try go_bits
          all_goals rfl
        · refine step_intro rfl rfl fun ρ X hc hf hgl hX hp ho => ?_
          change StepOk _ { dst := _, op := Op.load 110 (Operand.tmp 35), type := _, pos := _, after := _, guard := _ } _ _ _
          have k35 : ρ (.tmp 35) = ?vs9 := hp 9 (by decide)
          have c2XX := Grows.cell' hX c2X
          have f1XX := Grows.cell' hX f1X
          clear hp ho
          refine StepOk.of_run (v := ?vs10) (w' := X) ?_ ⟨rfl, Below.refl _ _⟩
          clear hX
          go_simp
          all_goals try go_bits
          all_goals try simp only [IntWalk.iteOmega]
          all_goals try go_bits
          all_goals rfl
        · refine step_intro rfl rfl fun ρ X hc hf hgl hX hp ho => ?_
          change StepOk _ { dst := _, op := Op.assign (Operand.tmp 36), type := _, pos := _, after := _, guard := _ } _ _ _
          have k36 : ρ (.tmp 36) = ?vs10 := hp 10 (by decide)
          clear hp ho
          refine StepOk.of_run (v := ?vs11) (w' := X) ?_ ⟨rfl, Below.refl _ _⟩
          clear hX
          go_simp
          all_goals try go_bits
          all_goals try simp only [IntWalk.iteOmega]
          all_goals try go_bits
          all_goals rfl
      case grds => rfl
      case rsts =>
        intro a0 X hb
        have hfr := hb.frame ((7, ?vs11) :: (26, ?vs0) :: (27, ?vs1) :: (28, ?vs2) :: (29, ?vs3) :: (30, ?vs4) :: (31, ?vs5) :: (32, (nv n)) :: (33, (.pointer (some ⟨fb, 0, none⟩))) :: (34, ?vs8) :: (35, ?vs9) :: (36, ?vs10) :: []) rfl ⟨hb.done' 11 7 rfl rfl, hb.done' 0 26 rfl rfl, hb.done' 1 27 rfl rfl, hb.done' 2 28 rfl rfl, hb.done' 3 29 rfl rfl, hb.done' 4 30 rfl rfl, hb.done' 5 31 rfl rfl, hb.done' 6 32 rfl rfl, hb.done' 7 33 rfl rfl, hb.done' 8 34 rfl rfl, hb.done' 9 35 rfl rfl, hb.done' 10 36 rfl rfl, trivial⟩
        simp only [updL, ↓reduceIte, Nat.reduceEqDiff, Nat.reduceAdd, Nat.zero_add] at hfr
        have HX := Lib.hid hb.ext
        clear hb
        subst hfr
        have HX2 : Hid (Grows w X) := Grows.trans' Hg.out HX.out
        have HR2 : Hid (X.ownsRow 0 9 1 (.slice (some ⟨g2, 0, none⟩) l cr) l (ns.map sv)) := own_grows Hr.out HX.out
        have Ho2 := Lib.hid (Own.grows Ho.out HX.out)
        clear c2X f1X cn Ho Hr Hg HMx HM1x
        go_wp2_with (first
          | (refine wpList_s2b rfl _ 9 36 5 rfl Tryz.underlying9 Tryz.underlying36 Tryz.underlying5 nm (by have := H16.out; omega) (Hsvn.out.symm) ?_; intro g5 c5 w5 hb5 hg5; have HB5 := Lib.hid (vPutBytes _ nm w5 hb5 (by have := H16.out; omega)); have HG5 := Lib.hid (Grows.trans' HX2.out hg5); have Ho5 := Lib.hid (Own.grows Ho2.out hg5); have HR5 : Hid (w5.ownsRow 0 9 1 (.slice (some ⟨g2, 0, none⟩) l cr) l (ns.map sv)) := own_grows HR2.out hg5; clear hb5 hg5)
          | fail)
        obtain ⟨n5, Hn5⟩ : ∃ y, Hid (nm.length = y) := ⟨_, rfl⟩
        rw [Hn5.out] at HB5 ⊢
        refine HB5.out.mono ?_
        rintro e w6 ⟨v6, rfl, ho6, hg6⟩
        have Hv6 := Lib.hid ho6
        have HG6 := Lib.hid (Grows.trans' HG5.out hg6)
        have Ho6 := Lib.hid (Own.grows Ho5.out hg6)
        have HR6 : Hid (w6.ownsRow 0 9 1 (.slice (some ⟨g2, 0, none⟩) l cr) l (ns.map sv)) := own_grows HR5.out hg6
        obtain ⟨P0, HP0⟩ : ∃ y, Hid ((ns.take k).flatMap (fun nm => recP nm (secsP x.s dl nm)) = y) := ⟨_, rfl⟩
        rw [HP0.out] at Ho6 Hblen
        have Hlb : Hid (P0.length + (putB nm).length ≤ 140737488355328) := by show _ ≤ _; have := Hblen.out; have := H16.out; have := svPutLen nm.length; unfold putB; rw [List.length_append]; omega
        clear ho6 hg6 HB5 Ho5 HR5 Ho2 HR2
        go_wp2_with (first
          | (at_builtin; refine wpList_app rfl _ _ 36 5 i0 rfl Tryz.underlying36 hi hz0 hz1 hz2 w.heap.size _ _ P0 (putB nm) rfl Ho6.out rfl (Own.byt Hv6.out) Hlb.out HG6.out.size ?_; intro u7 w7 hown7 hgrow7; have HG7 := Lib.hid (grows_app HG6.out Ho6.out HG6.out.size hgrow7); have HR7 : Hid (w7.ownsRow 0 9 1 (.slice (some ⟨g2, 0, none⟩) l cr) l (ns.map sv)) := grown_own hgrow7 HR6.out (fun j hj hr => by have h1 := kind_own HR6.out hj; have h2 := kind_own Ho6.out hr; rw [h1] at h2; simp at h2); have Ho7 := Lib.hid hown7; clear hown7 hgrow7)
          | fail)
        have HPu := Lib.hid (vPut sl (by have := Hle.out; omega) w7)
        have hwr : IntKind.u64.wrap (sl : Int) = (sl : Int) := wrap_u64 _ (by omega) (by have := Hle.out; omega)
        obtain ⟨au7, cu7, eu7⟩ := own_form Ho7.out
        subst eu7
        obtain ⟨nu7, Hnu7⟩ : ∃ y, Hid ((P0 ++ putB nm).length = y) := ⟨_, rfl⟩
        rw [Hnu7.out] at Ho7 ⊢
        go_wp2_with fail
        refine HPu.out.mono ?_
        rintro e w8 ⟨v8, rfl, ho8, hg8⟩
        have Hv8 := Lib.hid ho8
        have HG8 := Lib.hid (Grows.trans' HG7.out hg8)
        have Ho8 := Lib.hid (own_grows Ho7.out hg8)
        have HR8 : Hid (w8.ownsRow 0 9 1 (.slice (some ⟨g2, 0, none⟩) l cr) l (ns.map sv)) := own_grows HR7.out hg8
        have Ho8' : Hid (Own 5 w.heap.size w8 (.slice au7 nu7 cu7) (P0 ++ putB nm)) := by have h1 := Ho8.out; rw [← Hnu7.out] at h1 ⊢; exact h1
        have Hlb8 : Hid ((P0 ++ putB nm).length + (put sl).length ≤ 140737488355328) := by show _ ≤ _; have := Hblen.out; have := H16.out; have := svPutLen nm.length; have := svPutLen sl; unfold putB; rw [List.length_append, List.length_append]; omega
        clear ho8 hg8 HPu Ho7 HR7 Ho6 HR6 Hv6
        go_wp2_with (first
          | (at_builtin; refine wpList_app rfl _ _ 36 5 i0 rfl Tryz.underlying36 hi hz0 hz1 hz2 w.heap.size _ _ (P0 ++ putB nm) (put sl) rfl Ho8'.out rfl (Own.byt Hv8.out) Hlb8.out HG8.out.size ?_; intro u9 w9 hown9 hgrow9; have HG9 := Lib.hid (grows_app HG8.out Ho8'.out HG8.out.size hgrow9); have HR9 : Hid (w9.ownsRow 0 9 1 (.slice (some ⟨g2, 0, none⟩) l cr) l (ns.map sv)) := grown_own hgrow9 HR8.out (fun j hj hr => by have h1 := kind_own HR8.out hj; have h2 := kind_own Ho8'.out hr; rw [h1] at h2; simp at h2); have Ho9 := Lib.hid hown9; clear hown9 hgrow9)
          | fail)
        obtain ⟨P1, HP1⟩ : ∃ y, Hid ((P0 ++ putB nm) ++ put sl = y) := ⟨_, rfl⟩
        rw [HP1.out] at Ho9
        have Hlb9 : Hid (P1.length ≤ 2097700) := by show _ ≤ _; rw [← HP1.out]; have := Hblen.out; have := H16.out; have := svPutLen nm.length; have := svPutLen sl; unfold putB; simp only [List.length_append]; omega
        clear Ho8 Ho8' HR8 Hv8 Hlb8
        go_wp2
        go_loopw [3, 50] (fun t3 t50 wz => ∃ (i : Nat) (u : Value), t3 = u ∧ t50 = .int .i64 i ∧ i ≤ sl ∧ Hid (Own 5 w.heap.size wz u (P1 ++ (f.safe.take i).flatten)) ∧ Hid (Grows w wz) ∧ Hid (wz.ownsRow 0 9 1 (.slice (some ⟨g2, 0, none⟩) l cr) l (ns.map sv)))
          (fun _ t50 _ => sl - (intOf t50).toNat)
        case atStart => exact ⟨0, _, rfl, rfl, by omega, (by have h1 := Ho9.out; show Own _ _ _ _ _; simpa using h1), HG9.out, HR9.out⟩
        case round =>
          obtain ⟨i, u, rfl, rfl, hil, Hoz, Hgz, Hrz⟩ := hrel
          by_cases hlt2 : (i : Int) < (sl : Int)
          · have hin : i < f.safe.length := by rw [Hsl.out]; omega
            obtain ⟨p, Hp⟩ : ∃ p, Hid (f.safe[i]'hin = p) := ⟨_, Lib.hid rfl⟩
            have hp64 : p.length = 64 := by rw [← Hp.out]; exact Hfo.out.safe64 _ (List.getElem_mem hin)
            have Hp64 := Lib.hid hp64
            have hso := Hfo.out.safe
            rw [Hvs.out, Hsl.out] at hso
            obtain ⟨gs, cs, e5⟩ := own_some hso (by omega)
            simp only [Value.slice.injEq, true_and] at e5
            obtain ⟨rfl, e5⟩ := e5
            have HCs : Hid (∀ j v, (secC p)[j]? = some v → wr.cell? ((⟨gs, i * 64, none⟩ : Addr).add j) = some v) := by
              intro j v hj
              have hj64 : j < 64 := by have := (List.getElem?_eq_some_iff.1 hj).1; rw [secC_len1, hp64] at this; exact this
              have h1 := own_cell hso (i * 64 + j) v (by
                have hgd : f.safe.getD i [] = p := by rw [← Hp.out, List.getD_eq_getElem?_getD, List.getElem?_eq_getElem hin]; rfl
                rw [secC_get Hfo.out.safe64 i hin j hj64, hgd]
                simp only [secC, List.getElem?_map] at hj
                rw [List.getElem?_eq_getElem (by omega)] at hj
                simp only [Option.map_some] at hj
                rw [← hj, List.getD_eq_getElem?_getD, List.getElem?_eq_getElem (by omega)]
                rfl)
              rw [Addr.add_lit]
              exact Hgz.out.cell' h1
            have Hstep2 : Hid ((f.safe.take (i + 1)).flatten = (f.safe.take i).flatten ++ p) := by show _ = _; rw [List.take_succ_eq_append_getElem hin, List.flatten_append, Hp.out]; simp
            have Hlbz : Hid ((P1 ++ (f.safe.take i).flatten).length + p.length ≤ 140737488355328) := by
              show _ ≤ _
              have h1 := svFlat64 (ss := f.safe.take i) fun y hy => Hfo.out.safe64 y (List.mem_of_mem_take hy)
              have h2 := List.length_take_le i f.safe
              have h3 := Hlb9.out
              have h4 := Hle.out
              have h5 := Hp64.out
              rw [List.length_append]
              omega
            obtain ⟨C, HC⟩ : ∃ C, Hid ((secC p).toArray = C) := ⟨_, rfl⟩
            have hiI : (i : Int) ≤ 4096 := by omega
            clear hso hp64 e5
            go_wp2_with (first
              | (refine wpList_loadPart rfl 106 _ rfl ⟨gs, i * 64, none⟩ rfl (secC p) C HC.out _ HCs.out Tryz.underlying106 rfl (by rw [sizeSec, secC_len1, Hp64.out]) ?_)
              | (refine wpList_allocS rfl rfl ?_; intro nb w11 hb11 hg11 hle11; have Hb11 := Lib.hid hb11; have HG11 := Lib.hid (Grows.trans' Hgz.out hg11); have Ho11 := Lib.hid (Own.grows Hoz.out hg11); have HR11 : Hid (w11.ownsRow 0 9 1 (.slice (some ⟨g2, 0, none⟩) l cr) l (ns.map sv)) := own_grows Hrz.out hg11; have Hnb : Hid (w.heap.size ≤ nb) := Nat.le_trans Hgz.out.size hle11; clear hb11 hg11 hle11)
              | (refine wpList_storeS rfl _ _ rfl nb p C HC.out.symm Hp64.out rfl rfl Hb11.out ?_; intro w12 hby12 hB12; have Hby12 := Lib.hid hby12; have HG12 := Lib.hid (grows_new HG11.out Hnb.out hB12); have Ho12 : Hid (Own 5 w.heap.size w12 u3 (P1 ++ (f.safe.take i).flatten)) := own_but Ho11.out hB12 (fun j hj e => by have h1 := kind_own Ho11.out hj; rw [e, kind_cells Hb11.out] at h1; simp at h1); have HR12 : Hid (w12.ownsRow 0 9 1 (.slice (some ⟨g2, 0, none⟩) l cr) l (ns.map sv)) := own_but HR11.out hB12 (fun j hj e => by have h1 := kind_own HR11.out hj; rw [e, kind_cells Hb11.out] at h1; simp at h1); clear hby12 hB12)
              | (at_builtin; refine wpList_app rfl _ _ 36 5 i0 rfl Tryz.underlying36 hi hz0 hz1 hz2 w.heap.size _ _ (P1 ++ (f.safe.take i).flatten) p rfl Ho12.out rfl Hby12.out Hlbz.out HG12.out.size ?_; intro u13 w13 hown13 hgrow13; have HG13 := Lib.hid (grows_app HG12.out Ho12.out HG12.out.size hgrow13); have HR13 : Hid (w13.ownsRow 0 9 1 (.slice (some ⟨g2, 0, none⟩) l cr) l (ns.map sv)) := grown_own hgrow13 HR12.out (fun j hj hr => by have h1 := kind_own HR12.out hj; have h2 := kind_own Ho12.out hr; rw [h1] at h2; simp at h2); have Ho13 := Lib.hid hown13; clear hown13 hgrow13))
            go_roundw
            case rel =>
              refine ⟨i + 1, _, rfl, by simp, by omega, ?_, HG13.out, HR13.out⟩
              show Own _ _ _ _ _
              rw [Hstep2.out, ← List.append_assoc]
              exact Ho13.out
            case measure => first | omega | (simp [intOf]; omega)
          · have hi2 : i = sl := by omega
            subst hi2
            go_wp2
            refine ⟨⟨_, _, _, _, _, ⟨k + 1, by simp, by omega, ?_, (by have h9 := Hrz.out; rw [e2] at h9; exact h9)⟩, rfl, rfl, rfl, rfl, rfl⟩, ?_⟩
            · show Own _ _ _ _ _
              rw [Hstep.out, Hrec.out, HP0.out]
              have h1 := Hoz.out
              rw [List.take_of_length_le (by rw [Hsl.out]; exact Nat.le_refl _), ← HP1.out, ← Hsl.out, List.append_assoc, List.append_assoc] at h1
              rw [List.append_assoc]
              exact h1
            · simp [intOf]
              omega
    · have hk : k = l := by omega
      subst hk
      go_wp2
      go_ret
      refine ⟨_, rfl, ?_, Hg.out⟩
      have h1 := Ho.out
      rw [List.take_of_length_le (by rw [Hnl.out]; exact Nat.le_refl _)] at h1
      exact h1
end Go.Proofs.YtoppcpiheaedlaaGreatDoor
